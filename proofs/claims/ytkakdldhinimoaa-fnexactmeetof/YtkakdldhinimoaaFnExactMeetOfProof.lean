/- At every two matches the program and the specification answer the same, in memory of its own; the arguments read as before; no condition. -/
import Derived.Test.YtkakdldhinimoaaRows
import Derived.Test.YtkakdldhinimoaaLm
import Derived.Test.YtkakdldhinimoaaLk
import Derived.Test.YtkakdldhinimoaaLn
import Derived.Test.YtkakdldhinimoaaLe
import Derived.WalkKit
import Derived.ProofKit
import Derived.OpenShut
import Derived.ShutString
import Derived.ChangeOld
import Derived.Below
import Derived.Deep.RegionWith
import Derived.Deep.RegionHeld3
namespace Go.Proofs.Ytkakdldhinimoaa.fnExactMeetOf
open Go.ChangeShapes Go.WideShapes Go.ChangeAt Go.RowKit
set_option linter.unusedVariables false
set_option linter.unusedSimpArgs false

theorem own : ownKnob Try.prog.godebug = none := by kernel_rfl
theorem laidOut : laidOutB Try.prog = true := by kernel_rfl

theorem hide {p : Prop} (h : p) : Hid p := h

set_option maxRecDepth 8000 in
set_option maxHeartbeats 16000000 in
theorem walk (a0v : Option Addr) (n0v c0v : Nat) (z0v : List Int) (a0m : Option Addr) (n0m c0m : Nat) (z0m : List Int) (a1v : Option Addr) (n1v c1v : Nat) (z1v : List Int) (a1m : Option Addr) (n1m c1m : Nat) (z1m : List Int) (w : World) (w0v : Rw.IsRow .i64 w a0v n0v c0v z0v) (w0m : Rw.IsRow .i64 w a0m n0m c0m z0m) (w1v : Rw.IsRow .i64 w a1v n1v c1v z1v) (w1m : Rw.IsRow .i64 w a1m n1m c1m z1m) :
    Calls Try.prog 10 #[.agg #[.slice a0v n0v c0v, .slice a0m n0m c0m], .agg #[.slice a1v n1v c1v, .slice a1m n1m c1m]] w fun e w' => e = .returned (.bool true) ∧ Below w.heap.size w w' := by
  have mx0v := Hr.isRow_max w0v
  have mx0m := Hr.isRow_max w0m
  have mx1v := Hr.isRow_max w1v
  have mx1m := Hr.isRow_max w1m
  by_cases hb0 : 1048576 < n0v + n0m
  · clear w0v w0m w1v w1m
    go_enter Try.func10, Try.ntmps10
    go_wp2_with (go_at_call 42; refine (Lm.szM_big _ _ _ _ _ _ 1048576 _ hb0 (Nat.le_refl _) mx0v mx0m).mono ?_; rintro e wa ⟨rfl, hb⟩)
    go_ret
    exact ⟨rfl, Rw.next (Rw.next (Pl.below_alloc1 _ _) (Pl.below_alloc1 _ _)) hb⟩
  obtain ⟨L1, hL1⟩ : ∃ L1, n0v + n0m + L1 = 1048576 := ⟨1048576 - (n0v + n0m), by omega⟩
  have hp1 : ¬ ((L1 : Int) < 0) := by omega
  by_cases hb1 : L1 < n1v + n1m
  · obtain ⟨W0, hW0⟩ : ∃ W0, W0 = ((w.alloc (.cells #[.slice a0v n0v c0v, .slice a0m n0m c0m] 61)).alloc (.cells #[.slice a1v n1v c1v, .slice a1m n1m c1m] 61)) := ⟨_, rfl⟩
    have B : Below w.heap.size w W0 := by subst hW0; exact Rw.next (Pl.below_alloc1 _ _) (Pl.below_alloc1 _ _)
    have k1 : W0.heap[w.heap.size + 1]? = some (.cells #[.slice a1v n1v c1v, .slice a1m n1m c1m] 61 (0, 0)) := by subst hW0; exact Pl.at_new (by simp)
    clear w0v w0m w1v w1m
    go_enter Try.func10, Try.ntmps10
    go_wp2_with (go_at_call 42; rw [← hW0]; refine (Rg.szM_at _ _ _ _ _ _ 1048576 L1 _ hL1 (Nat.le_refl _)).mono ?_; rintro e wa ⟨rfl, hb⟩; replace k1 := (hb.block _ (Array.getElem?_eq_some_iff.1 k1).1).trans k1; replace B := Rw.next B hb; clear hb; obtain ⟨p0, p1⟩ := Pm.two k1)
    go_wp2_with (go_at_call 42; refine (Lm.szM_big _ _ _ _ _ _ L1 _ hb1 (by omega) mx1v mx1m).mono ?_; rintro e wb ⟨rfl, hb⟩)
    go_ret
    exact ⟨rfl, Rw.next B hb⟩
  obtain ⟨L2, hL2⟩ : ∃ L2, n1v + n1m + L2 = L1 := ⟨L1 - (n1v + n1m), by omega⟩
  have hp2 : ¬ ((L2 : Int) < 0) := by omega
  obtain ⟨b0v, o0v, V0, hV0, r0v, wdV0⟩ := Lm.rd_wide w0v (by omega)
  subst hV0
  obtain ⟨b0m, o0m, M0, hM0, r0m, wdM0⟩ := Lm.rd_wide w0m (by omega)
  subst hM0
  obtain ⟨b1v, o1v, V1, hV1, r1v, wdV1⟩ := Lm.rd_wide w1v (by omega)
  subst hV1
  obtain ⟨b1m, o1m, M1, hM1, r1m, wdM1⟩ := Lm.rd_wide w1m (by omega)
  subst hM1
  clear w0v mx0v w0m mx0m w1v mx1v w1m mx1m
  have smV0 : V0.length ≤ 1048576 := by omega
  have ltV0 := Hr.rd_lt r0v
  have smM0 : M0.length ≤ 1048576 := by omega
  have ltM0 := Hr.rd_lt r0m
  have smV1 : V1.length ≤ 1048576 := by omega
  have ltV1 := Hr.rd_lt r1v
  have smM1 : M1.length ≤ 1048576 := by omega
  have ltM1 := Hr.rd_lt r1m
  obtain ⟨R, LV, LM, hI, hS⟩ := Le.meetOfR V0 M0 V1 M1 wdV0 wdM0 wdV1 wdM1
  have HI : Hid (Rg.CMM 45 V0 M0 V1 M1 (fun w => Pm.ResMB w R LV LM)) := hI
  have HS : Hid (Rg.CMM 43 V0 M0 V1 M1 (fun w => Pm.ResMB w R LV LM)) := hS
  clear hI hS wdV0 wdM0 wdV1 wdM1
  obtain ⟨W0, hW0⟩ : ∃ W0, W0 = ((w.alloc (.cells #[.slice a0v V0.length c0v, .slice a0m M0.length c0m] 61)).alloc (.cells #[.slice a1v V1.length c1v, .slice a1m M1.length c1m] 61)) := ⟨_, rfl⟩
  have B : Below w.heap.size w W0 := by subst hW0; exact Rw.next (Pl.below_alloc1 _ _) (Pl.below_alloc1 _ _)
  have k0 : W0.heap[w.heap.size]? = some (.cells #[.slice a0v V0.length c0v, .slice a0m M0.length c0m] 61 (0, 0)) := by subst hW0; exact (Pl.at_old (by simp)).trans (Pl.at_new rfl)
  have zk0 : w.heap.size < W0.heap.size := by subst hW0; simp <;> omega
  have syk0 := zk0
  replace r0v := r0v.below B
  replace r0m := r0m.below B
  have k1 : W0.heap[w.heap.size + 1]? = some (.cells #[.slice a1v V1.length c1v, .slice a1m M1.length c1m] 61 (0, 0)) := by subst hW0; exact Pl.at_new (by simp)
  have zk1 : w.heap.size + 1 < W0.heap.size := by subst hW0; simp <;> omega
  have syk1 := zk1
  replace r1v := r1v.below B
  replace r1m := r1m.below B
  go_enter Try.func10, Try.ntmps10
  have tk1 : True := trivial
  go_wp2_with (go_at_call 42; clear tk1; rw [← hW0]; refine (Rg.szM_at _ _ _ _ _ _ 1048576 L1 _ hL1 (Nat.le_refl _)).mono ?_; rintro e w1 ⟨rfl, hb⟩; have sz1 := hb.size; replace B := Rw.next B hb; replace k0 := (hb.block _ zk0).trans k0; replace zk0 := Nat.lt_of_lt_of_le zk0 hb.size; replace k1 := (hb.block _ zk1).trans k1; replace zk1 := Nat.lt_of_lt_of_le zk1 hb.size; replace r0v := r0v.below hb; replace r0m := r0m.below hb; replace r1v := r1v.below hb; replace r1m := r1m.below hb; clear hb; obtain ⟨c0v, c0m⟩ := Pm.two k0; obtain ⟨c1v, c1m⟩ := Pm.two k1)
  have tk2 : True := trivial
  go_wp2_with (go_at_call 42; clear tk2; refine (Rg.szM_at _ _ _ _ _ _ L1 L2 _ hL2 (by omega)).mono ?_; rintro e w2 ⟨rfl, hb⟩; have sz2 := hb.size; clear c0v c0m c1v c1m; replace B := Rw.next B hb; replace k0 := (hb.block _ zk0).trans k0; replace zk0 := Nat.lt_of_lt_of_le zk0 hb.size; replace k1 := (hb.block _ zk1).trans k1; replace zk1 := Nat.lt_of_lt_of_le zk1 hb.size; replace r0v := r0v.below hb; replace r0m := r0m.below hb; replace r1v := r1v.below hb; replace r1m := r1m.below hb; clear hb; obtain ⟨c0v, c0m⟩ := Pm.two k0; obtain ⟨c1v, c1m⟩ := Pm.two k1)
  go_wp2_with fail
  clear c0v c0m c1v c1m
  go_cut [6, 7] from 17 (fun s6 s7 wx => ∃ (X : Nat) (pa : Option Addr) (pv pc : Nat) (pb : Option Addr) (pm pd : Nat), s6 = .pointer (some ⟨X, 0, none⟩) ∧ s7 = .bool R ∧ wx.heap[X]? = some (.cells #[.slice pa LV.length pc, .slice pb LM.length pd] 63 (0, 0)) ∧ Hr.Wt wx pa pv LV ∧ Hr.Wt wx pb pm LM ∧ Below w2.heap.size w2 wx ∧ w2.heap.size ≤ pv ∧ w2.heap.size ≤ pm ∧ pv ≠ pm ∧ w2.heap.size ≤ X ∧ (LV.length = 0 ∨ pv ≠ X) ∧ (LM.length = 0 ∨ pm ≠ X))
  case first =>
    have BC := Below.refl w2.heap.size w2
    refine wp_region_held_drew (S := (fun w' => w'.heap[w.heap.size]? = some (.cells #[.slice a0v V0.length c0v, .slice a0m M0.length c0m] 61 (0, 0)) ∧ w'.heap[w.heap.size + 1]? = some (.cells #[.slice a1v V1.length c1v, .slice a1m M1.length c1m] 61 (0, 0)))) (by kernel_rfl) ⟨k0, k1⟩ (fun hHeld => ?_)
    have BD : Below w2.heap.size w2 w2.drew := (Below.refl _ _).drew
    have syd2 : w2.heap.size ≤ w2.drew.heap.size := Nat.le_refl _
    replace B := Rw.next B BD
    replace k0 := (BD.block _ zk0).trans k0
    replace zk0 := Nat.lt_of_lt_of_le zk0 BD.size
    replace k1 := (BD.block _ zk1).trans k1
    replace zk1 := Nat.lt_of_lt_of_le zk1 BD.size
    replace r0v := r0v.below BD
    replace r0m := r0m.below BD
    replace r1v := r1v.below BD
    replace r1m := r1m.below BD
    replace BC := Rw.next BC BD
    clear BD
    refine Pq.take (i := 0) (d := some 28) (v := .agg #[.slice a0v V0.length c0v, .slice a0m M0.length c0m]) rfl (by kernel_rfl) (by kernel_rfl) (by kernel_rfl) (by kernel_rfl) (fun _ _ _ h => h) (Or.inl ⟨by rfl, by intro w hSw; obtain ⟨q0, q1⟩ := hSw; obtain ⟨t0, t1⟩ := Pm.two q0; go_simp⟩) hHeld ?_
    simp only [Act.put, List.setIfInBounds_toArray, List.set_cons_zero, List.set_cons_succ]
    refine Pq.take (i := 2) (d := some 30) (v := .agg #[.slice a1v V1.length c1v, .slice a1m M1.length c1m]) rfl (by kernel_rfl) (by kernel_rfl) (by kernel_rfl) (by kernel_rfl) (fun _ _ _ h => h) (Or.inl ⟨by rfl, by intro w hSw; obtain ⟨q0, q1⟩ := hSw; obtain ⟨t0, t1⟩ := Pm.two q1; go_simp⟩) hHeld ?_
    simp only [Act.put, List.setIfInBounds_toArray, List.set_cons_zero, List.set_cons_succ]
    refine wpAnyH_ready (rs := [1, 8]) (by kernel_rfl) (by simp) (Rg.call1 rfl (by kernel_rfl) 44 (.tmp 28) 61 (by kernel_rfl) 29 (by kernel_rfl) (.agg #[.slice a0v V0.length c0v, .slice a0m M0.length c0m]) (by kernel_rfl) (fun _ => rfl) (Lm.toMatch_any _ _ _ _ _ _ _ _ _ _ _ r0v r0m) ?_ (Ln.readyAlloc rfl (by kernel_rfl) (by kernel_rfl) 6 (by kernel_rfl) ⟨((Pl.below_alloc1 _ (.cells #[.slice none 0 0, .slice none 0 0] 63)).block _ zk0).trans k0, ((Pl.below_alloc1 _ (.cells #[.slice none 0 0, .slice none 0 0] 63)).block _ zk1).trans k1⟩ (fun hHeld => ?_) AllReadyH.nil))
    · rintro e w3 ⟨gav, gam, rfl, hb, galv, galm, gane, ha0v, ha0m⟩
      refine ⟨_, rfl, ⟨(hb.block _ zk0).trans k0, (hb.block _ zk1).trans k1⟩, fun hHeld => ?_⟩
      simp only [Act.put, List.setIfInBounds_toArray, List.set_cons_zero, List.set_cons_succ]
      have sz3 := hb.size
      replace B := Rw.next B hb
      replace k0 := (hb.block _ zk0).trans k0
      replace zk0 := Nat.lt_of_lt_of_le zk0 hb.size
      replace k1 := (hb.block _ zk1).trans k1
      replace zk1 := Nat.lt_of_lt_of_le zk1 hb.size
      replace r0v := r0v.below hb
      replace r0m := r0m.below hb
      replace r1v := r1v.below hb
      replace r1m := r1m.below hb
      replace BC := Rw.next BC hb
      clear hb
      refine wpAnyH_ready (rs := [3, 8]) (by kernel_rfl) (by simp) (Rg.call1 rfl (by kernel_rfl) 44 (.tmp 30) 61 (by kernel_rfl) 31 (by kernel_rfl) (.agg #[.slice a1v V1.length c1v, .slice a1m M1.length c1m]) (by kernel_rfl) (fun _ => rfl) (Lm.toMatch_any _ _ _ _ _ _ _ _ _ _ _ r1v r1m) ?_ (Ln.readyAlloc rfl (by kernel_rfl) (by kernel_rfl) 6 (by kernel_rfl) ⟨((Pl.below_alloc1 _ (.cells #[.slice none 0 0, .slice none 0 0] 63)).block _ zk0).trans k0, ((Pl.below_alloc1 _ (.cells #[.slice none 0 0, .slice none 0 0] 63)).block _ zk1).trans k1⟩ (fun hHeld => ?_) AllReadyH.nil))
      · rintro e w4 ⟨gbv, gbm, rfl, hb, gblv, gblm, gbne, ha1v, ha1m⟩
        refine ⟨_, rfl, ⟨(hb.block _ zk0).trans k0, (hb.block _ zk1).trans k1⟩, fun hHeld => ?_⟩
        simp only [Act.put, List.setIfInBounds_toArray, List.set_cons_zero, List.set_cons_succ]
        have sz4 := hb.size
        replace B := Rw.next B hb
        replace k0 := (hb.block _ zk0).trans k0
        replace zk0 := Nat.lt_of_lt_of_le zk0 hb.size
        replace k1 := (hb.block _ zk1).trans k1
        replace zk1 := Nat.lt_of_lt_of_le zk1 hb.size
        replace r0v := r0v.below hb
        replace r0m := r0m.below hb
        replace r1v := r1v.below hb
        replace r1m := r1m.below hb
        replace BC := Rw.next BC hb
        replace ha0v := ha0v.below hb
        replace ha0m := ha0m.below hb
        clear hb
        refine wpAnyH_ready (rs := [4, 8]) (by kernel_rfl) (by simp) (Rg.call2 rfl (by kernel_rfl) 43 (.tmp 29) (.tmp 31) 63 63 (by kernel_rfl) 32 (by kernel_rfl) (.agg #[.slice (some ⟨gav, 0, none⟩) V0.length V0.length, .slice (some ⟨gam, 0, none⟩) M0.length M0.length]) (.agg #[.slice (some ⟨gbv, 0, none⟩) V1.length V1.length, .slice (some ⟨gbm, 0, none⟩) M1.length M1.length]) (by kernel_rfl) (by kernel_rfl) (fun _ => rfl) (HS.out _ _ _ _ _ _ _ _ _ _ _ _ _ _ _ _ _ ha0v.rd ha0m.rd ha1v.rd ha1m.rd) ?_ (Ln.readyAlloc rfl (by kernel_rfl) (by kernel_rfl) 6 (by kernel_rfl) ⟨((Pl.below_alloc1 _ (.cells #[.slice none 0 0, .slice none 0 0] 63)).block _ zk0).trans k0, ((Pl.below_alloc1 _ (.cells #[.slice none 0 0, .slice none 0 0] 63)).block _ zk1).trans k1⟩ (fun hHeld => ?_) AllReadyH.nil))
        · rintro e w5 ⟨sa, sv, sc, sb, sm, sd, rfl, hsv, hsm, slv, slm, sne, hb⟩
          refine ⟨_, rfl, ⟨(hb.block _ zk0).trans k0, (hb.block _ zk1).trans k1⟩, fun hHeld => ?_⟩
          simp only [Act.put, List.setIfInBounds_toArray, List.set_cons_zero, List.set_cons_succ]
          have sz5 := hb.size
          replace B := Rw.next B hb
          replace k0 := (hb.block _ zk0).trans k0
          replace zk0 := Nat.lt_of_lt_of_le zk0 hb.size
          replace k1 := (hb.block _ zk1).trans k1
          replace zk1 := Nat.lt_of_lt_of_le zk1 hb.size
          replace r0v := r0v.below hb
          replace r0m := r0m.below hb
          replace r1v := r1v.below hb
          replace r1m := r1m.below hb
          replace BC := Rw.next BC hb
          replace ha0v := ha0v.below hb
          replace ha0m := ha0m.below hb
          replace ha1v := ha1v.below hb
          replace ha1m := ha1m.below hb
          clear hb
          have ltsv := Hr.wt_lt hsv
          have ltsm := Hr.wt_lt hsm
          refine Pq.take (i := 5) (d := some 27) (v := .tuple #[.agg #[.slice sa LV.length sc, .slice sb LM.length sd], .bool R]) rfl (by kernel_rfl) (by kernel_rfl) (by kernel_rfl) (by kernel_rfl) (fun _ _ _ h => h) (Or.inl ⟨by rfl, by intro w hSw; go_simp⟩) hHeld ?_
          simp only [Act.put, List.setIfInBounds_toArray, List.set_cons_zero, List.set_cons_succ]
          refine Pq.take (i := 6) (d := some 33) (v := .agg #[.slice sa LV.length sc, .slice sb LM.length sd]) rfl (by kernel_rfl) (by kernel_rfl) (by kernel_rfl) (by kernel_rfl) (fun _ _ _ h => h) (Or.inl ⟨by rfl, by intro w hSw; go_simp⟩) hHeld ?_
          simp only [Act.put, List.setIfInBounds_toArray, List.set_cons_zero, List.set_cons_succ]
          refine Pq.take (i := 7) (d := some 34) (v := .bool R) rfl (by kernel_rfl) (by kernel_rfl) (by kernel_rfl) (by kernel_rfl) (fun _ _ _ h => h) (Or.inl ⟨by rfl, by intro w hSw; go_simp⟩) hHeld ?_
          simp only [Act.put, List.setIfInBounds_toArray, List.set_cons_zero, List.set_cons_succ]
          refine wpAnyH_ready (rs := [8]) (by kernel_rfl) (by simp) (Ln.readyAlloc rfl (by kernel_rfl) (by kernel_rfl) 6 (by kernel_rfl) ⟨((Pl.below_alloc1 _ (.cells #[.slice none 0 0, .slice none 0 0] 63)).block _ zk0).trans k0, ((Pl.below_alloc1 _ (.cells #[.slice none 0 0, .slice none 0 0] 63)).block _ zk1).trans k1⟩ (fun hHeld => ?_) AllReadyH.nil)
          simp only [Act.put, List.setIfInBounds_toArray, List.set_cons_zero, List.set_cons_succ]
          have BX : Below w5.heap.size w5 (w5.alloc (.cells #[.slice none 0 0, .slice none 0 0] 63)) := Pl.below_alloc1 w5 (.cells #[.slice none 0 0, .slice none 0 0] 63)
          replace B := Rw.next B BX
          replace k0 := (BX.block _ zk0).trans k0
          replace zk0 := Nat.lt_of_lt_of_le zk0 BX.size
          replace k1 := (BX.block _ zk1).trans k1
          replace zk1 := Nat.lt_of_lt_of_le zk1 BX.size
          replace r0v := r0v.below BX
          replace r0m := r0m.below BX
          replace r1v := r1v.below BX
          replace r1m := r1m.below BX
          replace BC := Rw.next BC BX
          replace hsv := hsv.below BX
          replace hsm := hsm.below BX
          have kX : (w5.alloc (.cells #[.slice none 0 0, .slice none 0 0] 63)).heap[w5.heap.size]? = some (.cells #[.slice none 0 0, .slice none 0 0] 63 (0, 0)) := Pl.at_new rfl
          have zkX : w5.heap.size < (w5.alloc (.cells #[.slice none 0 0, .slice none 0 0] 63)).heap.size := (by simp)
          have sykX := zkX
          clear BX
          have cX : w2.heap.size ≤ w5.heap.size := by omega
          have nXv : LV.length = 0 ∨ sv ≠ w5.heap.size := by omega
          have nXm : LM.length = 0 ∨ sm ≠ w5.heap.size := by omega
          have nk0 : w.heap.size ≠ w5.heap.size := by omega
          have nk1 : w.heap.size + 1 ≠ w5.heap.size := by omega
          refine wpAnyH_ready (rs := [9]) (by kernel_rfl) (by simp) (Ln.readyStore (X := w5.heap.size) (p := sa) (n := LV.length) (c := sc) (p' := sb) (n' := LM.length) (c' := sd) rfl (by kernel_rfl) (.tmp 6) (.tmp 33) (by kernel_rfl) (by kernel_rfl) (by kernel_rfl) (by kernel_rfl) kX (fun wn hN hE => ⟨(hE.block _ nk0).trans k0, (hE.block _ nk1).trans k1⟩) (fun w6 hN hE hHeld => ?_) AllReadyH.nil)
          simp only [Act.put, List.setIfInBounds_toArray, List.set_cons_zero, List.set_cons_succ]
          refine Pq.take (i := 10) (d := some 7) (v := .bool R) rfl (by kernel_rfl) (by kernel_rfl) (by kernel_rfl) (by kernel_rfl) (fun _ _ _ h => h) (Or.inl ⟨by rfl, by intro w hSw; go_simp⟩) hHeld ?_
          simp only [Act.put, List.setIfInBounds_toArray, List.set_cons_zero, List.set_cons_succ]
          refine wpAnyH_done (by kernel_rfl) ?_ _
          go_wp2_with fail
          go_meet
          exact ⟨_, _, sv, _, _, sm, _, rfl, rfl, hN, Ln.wt_same hE hsv nXv, Ln.wt_same hE hsm nXm, Ln.same_below hE BC cX, by omega, by omega, sne, cX, nXv, nXm⟩
        · simp only [Act.put, List.setIfInBounds_toArray, List.set_cons_zero, List.set_cons_succ]
          have BX : Below w4.heap.size w4 (w4.alloc (.cells #[.slice none 0 0, .slice none 0 0] 63)) := Pl.below_alloc1 w4 (.cells #[.slice none 0 0, .slice none 0 0] 63)
          replace B := Rw.next B BX
          replace k0 := (BX.block _ zk0).trans k0
          replace zk0 := Nat.lt_of_lt_of_le zk0 BX.size
          replace k1 := (BX.block _ zk1).trans k1
          replace zk1 := Nat.lt_of_lt_of_le zk1 BX.size
          replace r0v := r0v.below BX
          replace r0m := r0m.below BX
          replace r1v := r1v.below BX
          replace r1m := r1m.below BX
          replace BC := Rw.next BC BX
          replace ha0v := ha0v.below BX
          replace ha0m := ha0m.below BX
          replace ha1v := ha1v.below BX
          replace ha1m := ha1m.below BX
          have kX : (w4.alloc (.cells #[.slice none 0 0, .slice none 0 0] 63)).heap[w4.heap.size]? = some (.cells #[.slice none 0 0, .slice none 0 0] 63 (0, 0)) := Pl.at_new rfl
          have zkX : w4.heap.size < (w4.alloc (.cells #[.slice none 0 0, .slice none 0 0] 63)).heap.size := (by simp)
          have sykX := zkX
          clear BX
          refine wpAnyH_ready (rs := [4]) (by kernel_rfl) (by simp) (Rg.call2 rfl (by kernel_rfl) 43 (.tmp 29) (.tmp 31) 63 63 (by kernel_rfl) 32 (by kernel_rfl) (.agg #[.slice (some ⟨gav, 0, none⟩) V0.length V0.length, .slice (some ⟨gam, 0, none⟩) M0.length M0.length]) (.agg #[.slice (some ⟨gbv, 0, none⟩) V1.length V1.length, .slice (some ⟨gbm, 0, none⟩) M1.length M1.length]) (by kernel_rfl) (by kernel_rfl) (fun _ => rfl) (HS.out _ _ _ _ _ _ _ _ _ _ _ _ _ _ _ _ _ ha0v.rd ha0m.rd ha1v.rd ha1m.rd) ?_ AllReadyH.nil)
          rintro e w7 ⟨sa, sv, sc, sb, sm, sd, rfl, hsv, hsm, slv, slm, sne, hb⟩
          refine ⟨_, rfl, ⟨(hb.block _ zk0).trans k0, (hb.block _ zk1).trans k1⟩, fun hHeld => ?_⟩
          simp only [Act.put, List.setIfInBounds_toArray, List.set_cons_zero, List.set_cons_succ]
          have sz5 := hb.size
          replace B := Rw.next B hb
          replace k0 := (hb.block _ zk0).trans k0
          replace zk0 := Nat.lt_of_lt_of_le zk0 hb.size
          replace k1 := (hb.block _ zk1).trans k1
          replace zk1 := Nat.lt_of_lt_of_le zk1 hb.size
          replace r0v := r0v.below hb
          replace r0m := r0m.below hb
          replace r1v := r1v.below hb
          replace r1m := r1m.below hb
          replace BC := Rw.next BC hb
          replace ha0v := ha0v.below hb
          replace ha0m := ha0m.below hb
          replace ha1v := ha1v.below hb
          replace ha1m := ha1m.below hb
          replace kX := (hb.block _ zkX).trans kX
          replace zkX := Nat.lt_of_lt_of_le zkX hb.size
          clear hb
          have ltsv := Hr.wt_lt hsv
          have ltsm := Hr.wt_lt hsm
          refine Pq.take (i := 5) (d := some 27) (v := .tuple #[.agg #[.slice sa LV.length sc, .slice sb LM.length sd], .bool R]) rfl (by kernel_rfl) (by kernel_rfl) (by kernel_rfl) (by kernel_rfl) (fun _ _ _ h => h) (Or.inl ⟨by rfl, by intro w hSw; go_simp⟩) hHeld ?_
          simp only [Act.put, List.setIfInBounds_toArray, List.set_cons_zero, List.set_cons_succ]
          refine Pq.take (i := 6) (d := some 33) (v := .agg #[.slice sa LV.length sc, .slice sb LM.length sd]) rfl (by kernel_rfl) (by kernel_rfl) (by kernel_rfl) (by kernel_rfl) (fun _ _ _ h => h) (Or.inl ⟨by rfl, by intro w hSw; go_simp⟩) hHeld ?_
          simp only [Act.put, List.setIfInBounds_toArray, List.set_cons_zero, List.set_cons_succ]
          refine Pq.take (i := 7) (d := some 34) (v := .bool R) rfl (by kernel_rfl) (by kernel_rfl) (by kernel_rfl) (by kernel_rfl) (fun _ _ _ h => h) (Or.inl ⟨by rfl, by intro w hSw; go_simp⟩) hHeld ?_
          simp only [Act.put, List.setIfInBounds_toArray, List.set_cons_zero, List.set_cons_succ]
          have cX : w2.heap.size ≤ w4.heap.size := by omega
          have nXv : LV.length = 0 ∨ sv ≠ w4.heap.size := by omega
          have nXm : LM.length = 0 ∨ sm ≠ w4.heap.size := by omega
          have nk0 : w.heap.size ≠ w4.heap.size := by omega
          have nk1 : w.heap.size + 1 ≠ w4.heap.size := by omega
          refine wpAnyH_ready (rs := [9]) (by kernel_rfl) (by simp) (Ln.readyStore (X := w4.heap.size) (p := sa) (n := LV.length) (c := sc) (p' := sb) (n' := LM.length) (c' := sd) rfl (by kernel_rfl) (.tmp 6) (.tmp 33) (by kernel_rfl) (by kernel_rfl) (by kernel_rfl) (by kernel_rfl) kX (fun wn hN hE => ⟨(hE.block _ nk0).trans k0, (hE.block _ nk1).trans k1⟩) (fun w8 hN hE hHeld => ?_) AllReadyH.nil)
          simp only [Act.put, List.setIfInBounds_toArray, List.set_cons_zero, List.set_cons_succ]
          refine Pq.take (i := 10) (d := some 7) (v := .bool R) rfl (by kernel_rfl) (by kernel_rfl) (by kernel_rfl) (by kernel_rfl) (fun _ _ _ h => h) (Or.inl ⟨by rfl, by intro w hSw; go_simp⟩) hHeld ?_
          simp only [Act.put, List.setIfInBounds_toArray, List.set_cons_zero, List.set_cons_succ]
          refine wpAnyH_done (by kernel_rfl) ?_ _
          go_wp2_with fail
          go_meet
          exact ⟨_, _, sv, _, _, sm, _, rfl, rfl, hN, Ln.wt_same hE hsv nXv, Ln.wt_same hE hsm nXm, Ln.same_below hE BC cX, by omega, by omega, sne, cX, nXv, nXm⟩
      · simp only [Act.put, List.setIfInBounds_toArray, List.set_cons_zero, List.set_cons_succ]
        have BX : Below w3.heap.size w3 (w3.alloc (.cells #[.slice none 0 0, .slice none 0 0] 63)) := Pl.below_alloc1 w3 (.cells #[.slice none 0 0, .slice none 0 0] 63)
        replace B := Rw.next B BX
        replace k0 := (BX.block _ zk0).trans k0
        replace zk0 := Nat.lt_of_lt_of_le zk0 BX.size
        replace k1 := (BX.block _ zk1).trans k1
        replace zk1 := Nat.lt_of_lt_of_le zk1 BX.size
        replace r0v := r0v.below BX
        replace r0m := r0m.below BX
        replace r1v := r1v.below BX
        replace r1m := r1m.below BX
        replace BC := Rw.next BC BX
        replace ha0v := ha0v.below BX
        replace ha0m := ha0m.below BX
        have kX : (w3.alloc (.cells #[.slice none 0 0, .slice none 0 0] 63)).heap[w3.heap.size]? = some (.cells #[.slice none 0 0, .slice none 0 0] 63 (0, 0)) := Pl.at_new rfl
        have zkX : w3.heap.size < (w3.alloc (.cells #[.slice none 0 0, .slice none 0 0] 63)).heap.size := (by simp)
        have sykX := zkX
        clear BX
        refine wpAnyH_ready (rs := [3]) (by kernel_rfl) (by simp) (Rg.call1 rfl (by kernel_rfl) 44 (.tmp 30) 61 (by kernel_rfl) 31 (by kernel_rfl) (.agg #[.slice a1v V1.length c1v, .slice a1m M1.length c1m]) (by kernel_rfl) (fun _ => rfl) (Lm.toMatch_any _ _ _ _ _ _ _ _ _ _ _ r1v r1m) ?_ AllReadyH.nil)
        rintro e w9 ⟨gbv, gbm, rfl, hb, gblv, gblm, gbne, ha1v, ha1m⟩
        refine ⟨_, rfl, ⟨(hb.block _ zk0).trans k0, (hb.block _ zk1).trans k1⟩, fun hHeld => ?_⟩
        simp only [Act.put, List.setIfInBounds_toArray, List.set_cons_zero, List.set_cons_succ]
        have sz4 := hb.size
        replace B := Rw.next B hb
        replace k0 := (hb.block _ zk0).trans k0
        replace zk0 := Nat.lt_of_lt_of_le zk0 hb.size
        replace k1 := (hb.block _ zk1).trans k1
        replace zk1 := Nat.lt_of_lt_of_le zk1 hb.size
        replace r0v := r0v.below hb
        replace r0m := r0m.below hb
        replace r1v := r1v.below hb
        replace r1m := r1m.below hb
        replace BC := Rw.next BC hb
        replace ha0v := ha0v.below hb
        replace ha0m := ha0m.below hb
        replace kX := (hb.block _ zkX).trans kX
        replace zkX := Nat.lt_of_lt_of_le zkX hb.size
        clear hb
        refine wpAnyH_ready (rs := [4]) (by kernel_rfl) (by simp) (Rg.call2 rfl (by kernel_rfl) 43 (.tmp 29) (.tmp 31) 63 63 (by kernel_rfl) 32 (by kernel_rfl) (.agg #[.slice (some ⟨gav, 0, none⟩) V0.length V0.length, .slice (some ⟨gam, 0, none⟩) M0.length M0.length]) (.agg #[.slice (some ⟨gbv, 0, none⟩) V1.length V1.length, .slice (some ⟨gbm, 0, none⟩) M1.length M1.length]) (by kernel_rfl) (by kernel_rfl) (fun _ => rfl) (HS.out _ _ _ _ _ _ _ _ _ _ _ _ _ _ _ _ _ ha0v.rd ha0m.rd ha1v.rd ha1m.rd) ?_ AllReadyH.nil)
        rintro e w10 ⟨sa, sv, sc, sb, sm, sd, rfl, hsv, hsm, slv, slm, sne, hb⟩
        refine ⟨_, rfl, ⟨(hb.block _ zk0).trans k0, (hb.block _ zk1).trans k1⟩, fun hHeld => ?_⟩
        simp only [Act.put, List.setIfInBounds_toArray, List.set_cons_zero, List.set_cons_succ]
        have sz5 := hb.size
        replace B := Rw.next B hb
        replace k0 := (hb.block _ zk0).trans k0
        replace zk0 := Nat.lt_of_lt_of_le zk0 hb.size
        replace k1 := (hb.block _ zk1).trans k1
        replace zk1 := Nat.lt_of_lt_of_le zk1 hb.size
        replace r0v := r0v.below hb
        replace r0m := r0m.below hb
        replace r1v := r1v.below hb
        replace r1m := r1m.below hb
        replace BC := Rw.next BC hb
        replace ha0v := ha0v.below hb
        replace ha0m := ha0m.below hb
        replace kX := (hb.block _ zkX).trans kX
        replace zkX := Nat.lt_of_lt_of_le zkX hb.size
        replace ha1v := ha1v.below hb
        replace ha1m := ha1m.below hb
        clear hb
        have ltsv := Hr.wt_lt hsv
        have ltsm := Hr.wt_lt hsm
        refine Pq.take (i := 5) (d := some 27) (v := .tuple #[.agg #[.slice sa LV.length sc, .slice sb LM.length sd], .bool R]) rfl (by kernel_rfl) (by kernel_rfl) (by kernel_rfl) (by kernel_rfl) (fun _ _ _ h => h) (Or.inl ⟨by rfl, by intro w hSw; go_simp⟩) hHeld ?_
        simp only [Act.put, List.setIfInBounds_toArray, List.set_cons_zero, List.set_cons_succ]
        refine Pq.take (i := 6) (d := some 33) (v := .agg #[.slice sa LV.length sc, .slice sb LM.length sd]) rfl (by kernel_rfl) (by kernel_rfl) (by kernel_rfl) (by kernel_rfl) (fun _ _ _ h => h) (Or.inl ⟨by rfl, by intro w hSw; go_simp⟩) hHeld ?_
        simp only [Act.put, List.setIfInBounds_toArray, List.set_cons_zero, List.set_cons_succ]
        refine Pq.take (i := 7) (d := some 34) (v := .bool R) rfl (by kernel_rfl) (by kernel_rfl) (by kernel_rfl) (by kernel_rfl) (fun _ _ _ h => h) (Or.inl ⟨by rfl, by intro w hSw; go_simp⟩) hHeld ?_
        simp only [Act.put, List.setIfInBounds_toArray, List.set_cons_zero, List.set_cons_succ]
        have cX : w2.heap.size ≤ w3.heap.size := by omega
        have nXv : LV.length = 0 ∨ sv ≠ w3.heap.size := by omega
        have nXm : LM.length = 0 ∨ sm ≠ w3.heap.size := by omega
        have nk0 : w.heap.size ≠ w3.heap.size := by omega
        have nk1 : w.heap.size + 1 ≠ w3.heap.size := by omega
        refine wpAnyH_ready (rs := [9]) (by kernel_rfl) (by simp) (Ln.readyStore (X := w3.heap.size) (p := sa) (n := LV.length) (c := sc) (p' := sb) (n' := LM.length) (c' := sd) rfl (by kernel_rfl) (.tmp 6) (.tmp 33) (by kernel_rfl) (by kernel_rfl) (by kernel_rfl) (by kernel_rfl) kX (fun wn hN hE => ⟨(hE.block _ nk0).trans k0, (hE.block _ nk1).trans k1⟩) (fun w11 hN hE hHeld => ?_) AllReadyH.nil)
        simp only [Act.put, List.setIfInBounds_toArray, List.set_cons_zero, List.set_cons_succ]
        refine Pq.take (i := 10) (d := some 7) (v := .bool R) rfl (by kernel_rfl) (by kernel_rfl) (by kernel_rfl) (by kernel_rfl) (fun _ _ _ h => h) (Or.inl ⟨by rfl, by intro w hSw; go_simp⟩) hHeld ?_
        simp only [Act.put, List.setIfInBounds_toArray, List.set_cons_zero, List.set_cons_succ]
        refine wpAnyH_done (by kernel_rfl) ?_ _
        go_wp2_with fail
        go_meet
        exact ⟨_, _, sv, _, _, sm, _, rfl, rfl, hN, Ln.wt_same hE hsv nXv, Ln.wt_same hE hsm nXm, Ln.same_below hE BC cX, by omega, by omega, sne, cX, nXv, nXm⟩
    · simp only [Act.put, List.setIfInBounds_toArray, List.set_cons_zero, List.set_cons_succ]
      have BX : Below w2.heap.size w2.drew (w2.drew.alloc (.cells #[.slice none 0 0, .slice none 0 0] 63)) := Pl.below_alloc1 w2.drew (.cells #[.slice none 0 0, .slice none 0 0] 63)
      replace B := Rw.next B BX
      replace k0 := (BX.block _ zk0).trans k0
      replace zk0 := Nat.lt_of_lt_of_le zk0 BX.size
      replace k1 := (BX.block _ zk1).trans k1
      replace zk1 := Nat.lt_of_lt_of_le zk1 BX.size
      replace r0v := r0v.below BX
      replace r0m := r0m.below BX
      replace r1v := r1v.below BX
      replace r1m := r1m.below BX
      replace BC := Rw.next BC BX
      have kX : (w2.drew.alloc (.cells #[.slice none 0 0, .slice none 0 0] 63)).heap[w2.heap.size]? = some (.cells #[.slice none 0 0, .slice none 0 0] 63 (0, 0)) := Pl.at_new rfl
      have zkX : w2.heap.size < (w2.drew.alloc (.cells #[.slice none 0 0, .slice none 0 0] 63)).heap.size := (by simp)
      have sykX := zkX
      clear BX
      refine wpAnyH_ready (rs := [1]) (by kernel_rfl) (by simp) (Rg.call1 rfl (by kernel_rfl) 44 (.tmp 28) 61 (by kernel_rfl) 29 (by kernel_rfl) (.agg #[.slice a0v V0.length c0v, .slice a0m M0.length c0m]) (by kernel_rfl) (fun _ => rfl) (Lm.toMatch_any _ _ _ _ _ _ _ _ _ _ _ r0v r0m) ?_ AllReadyH.nil)
      rintro e w12 ⟨gav, gam, rfl, hb, galv, galm, gane, ha0v, ha0m⟩
      refine ⟨_, rfl, ⟨(hb.block _ zk0).trans k0, (hb.block _ zk1).trans k1⟩, fun hHeld => ?_⟩
      simp only [Act.put, List.setIfInBounds_toArray, List.set_cons_zero, List.set_cons_succ]
      have sz3 := hb.size
      replace B := Rw.next B hb
      replace k0 := (hb.block _ zk0).trans k0
      replace zk0 := Nat.lt_of_lt_of_le zk0 hb.size
      replace k1 := (hb.block _ zk1).trans k1
      replace zk1 := Nat.lt_of_lt_of_le zk1 hb.size
      replace r0v := r0v.below hb
      replace r0m := r0m.below hb
      replace r1v := r1v.below hb
      replace r1m := r1m.below hb
      replace BC := Rw.next BC hb
      replace kX := (hb.block _ zkX).trans kX
      replace zkX := Nat.lt_of_lt_of_le zkX hb.size
      clear hb
      refine wpAnyH_ready (rs := [3]) (by kernel_rfl) (by simp) (Rg.call1 rfl (by kernel_rfl) 44 (.tmp 30) 61 (by kernel_rfl) 31 (by kernel_rfl) (.agg #[.slice a1v V1.length c1v, .slice a1m M1.length c1m]) (by kernel_rfl) (fun _ => rfl) (Lm.toMatch_any _ _ _ _ _ _ _ _ _ _ _ r1v r1m) ?_ AllReadyH.nil)
      rintro e w13 ⟨gbv, gbm, rfl, hb, gblv, gblm, gbne, ha1v, ha1m⟩
      refine ⟨_, rfl, ⟨(hb.block _ zk0).trans k0, (hb.block _ zk1).trans k1⟩, fun hHeld => ?_⟩
      simp only [Act.put, List.setIfInBounds_toArray, List.set_cons_zero, List.set_cons_succ]
      have sz4 := hb.size
      replace B := Rw.next B hb
      replace k0 := (hb.block _ zk0).trans k0
      replace zk0 := Nat.lt_of_lt_of_le zk0 hb.size
      replace k1 := (hb.block _ zk1).trans k1
      replace zk1 := Nat.lt_of_lt_of_le zk1 hb.size
      replace r0v := r0v.below hb
      replace r0m := r0m.below hb
      replace r1v := r1v.below hb
      replace r1m := r1m.below hb
      replace BC := Rw.next BC hb
      replace kX := (hb.block _ zkX).trans kX
      replace zkX := Nat.lt_of_lt_of_le zkX hb.size
      replace ha0v := ha0v.below hb
      replace ha0m := ha0m.below hb
      clear hb
      refine wpAnyH_ready (rs := [4]) (by kernel_rfl) (by simp) (Rg.call2 rfl (by kernel_rfl) 43 (.tmp 29) (.tmp 31) 63 63 (by kernel_rfl) 32 (by kernel_rfl) (.agg #[.slice (some ⟨gav, 0, none⟩) V0.length V0.length, .slice (some ⟨gam, 0, none⟩) M0.length M0.length]) (.agg #[.slice (some ⟨gbv, 0, none⟩) V1.length V1.length, .slice (some ⟨gbm, 0, none⟩) M1.length M1.length]) (by kernel_rfl) (by kernel_rfl) (fun _ => rfl) (HS.out _ _ _ _ _ _ _ _ _ _ _ _ _ _ _ _ _ ha0v.rd ha0m.rd ha1v.rd ha1m.rd) ?_ AllReadyH.nil)
      rintro e w14 ⟨sa, sv, sc, sb, sm, sd, rfl, hsv, hsm, slv, slm, sne, hb⟩
      refine ⟨_, rfl, ⟨(hb.block _ zk0).trans k0, (hb.block _ zk1).trans k1⟩, fun hHeld => ?_⟩
      simp only [Act.put, List.setIfInBounds_toArray, List.set_cons_zero, List.set_cons_succ]
      have sz5 := hb.size
      replace B := Rw.next B hb
      replace k0 := (hb.block _ zk0).trans k0
      replace zk0 := Nat.lt_of_lt_of_le zk0 hb.size
      replace k1 := (hb.block _ zk1).trans k1
      replace zk1 := Nat.lt_of_lt_of_le zk1 hb.size
      replace r0v := r0v.below hb
      replace r0m := r0m.below hb
      replace r1v := r1v.below hb
      replace r1m := r1m.below hb
      replace BC := Rw.next BC hb
      replace kX := (hb.block _ zkX).trans kX
      replace zkX := Nat.lt_of_lt_of_le zkX hb.size
      replace ha0v := ha0v.below hb
      replace ha0m := ha0m.below hb
      replace ha1v := ha1v.below hb
      replace ha1m := ha1m.below hb
      clear hb
      have ltsv := Hr.wt_lt hsv
      have ltsm := Hr.wt_lt hsm
      refine Pq.take (i := 5) (d := some 27) (v := .tuple #[.agg #[.slice sa LV.length sc, .slice sb LM.length sd], .bool R]) rfl (by kernel_rfl) (by kernel_rfl) (by kernel_rfl) (by kernel_rfl) (fun _ _ _ h => h) (Or.inl ⟨by rfl, by intro w hSw; go_simp⟩) hHeld ?_
      simp only [Act.put, List.setIfInBounds_toArray, List.set_cons_zero, List.set_cons_succ]
      refine Pq.take (i := 6) (d := some 33) (v := .agg #[.slice sa LV.length sc, .slice sb LM.length sd]) rfl (by kernel_rfl) (by kernel_rfl) (by kernel_rfl) (by kernel_rfl) (fun _ _ _ h => h) (Or.inl ⟨by rfl, by intro w hSw; go_simp⟩) hHeld ?_
      simp only [Act.put, List.setIfInBounds_toArray, List.set_cons_zero, List.set_cons_succ]
      refine Pq.take (i := 7) (d := some 34) (v := .bool R) rfl (by kernel_rfl) (by kernel_rfl) (by kernel_rfl) (by kernel_rfl) (fun _ _ _ h => h) (Or.inl ⟨by rfl, by intro w hSw; go_simp⟩) hHeld ?_
      simp only [Act.put, List.setIfInBounds_toArray, List.set_cons_zero, List.set_cons_succ]
      have cX : w2.heap.size ≤ w2.heap.size := by omega
      have nXv : LV.length = 0 ∨ sv ≠ w2.heap.size := by omega
      have nXm : LM.length = 0 ∨ sm ≠ w2.heap.size := by omega
      have nk0 : w.heap.size ≠ w2.heap.size := by omega
      have nk1 : w.heap.size + 1 ≠ w2.heap.size := by omega
      refine wpAnyH_ready (rs := [9]) (by kernel_rfl) (by simp) (Ln.readyStore (X := w2.heap.size) (p := sa) (n := LV.length) (c := sc) (p' := sb) (n' := LM.length) (c' := sd) rfl (by kernel_rfl) (.tmp 6) (.tmp 33) (by kernel_rfl) (by kernel_rfl) (by kernel_rfl) (by kernel_rfl) kX (fun wn hN hE => ⟨(hE.block _ nk0).trans k0, (hE.block _ nk1).trans k1⟩) (fun w15 hN hE hHeld => ?_) AllReadyH.nil)
      simp only [Act.put, List.setIfInBounds_toArray, List.set_cons_zero, List.set_cons_succ]
      refine Pq.take (i := 10) (d := some 7) (v := .bool R) rfl (by kernel_rfl) (by kernel_rfl) (by kernel_rfl) (by kernel_rfl) (fun _ _ _ h => h) (Or.inl ⟨by rfl, by intro w hSw; go_simp⟩) hHeld ?_
      simp only [Act.put, List.setIfInBounds_toArray, List.set_cons_zero, List.set_cons_succ]
      refine wpAnyH_done (by kernel_rfl) ?_ _
      go_wp2_with fail
      go_meet
      exact ⟨_, _, sv, _, _, sm, _, rfl, rfl, hN, Ln.wt_same hE hsv nXv, Ln.wt_same hE hsm nXm, Ln.same_below hE BC cX, by omega, by omega, sne, cX, nXv, nXm⟩
  case rest =>
    obtain ⟨Xs, sa, sv, sc, sb, sm, sd, rfl, rfl, ks, hsv, hsm, hb, slv, slm, sne, Xslo, Xsv, Xsm⟩ := hcut
    have sz3 := hb.size
    replace B := Rw.next B hb
    replace k0 := (hb.block _ zk0).trans k0
    replace zk0 := Nat.lt_of_lt_of_le zk0 hb.size
    replace k1 := (hb.block _ zk1).trans k1
    replace zk1 := Nat.lt_of_lt_of_le zk1 hb.size
    replace r0v := r0v.below hb
    replace r0m := r0m.below hb
    replace r1v := r1v.below hb
    replace r1m := r1m.below hb
    clear hb
    have ltsv := Hr.wt_lt hsv
    have ltsm := Hr.wt_lt hsm
    have zks := (Array.getElem?_eq_some_iff.1 ks).1
    have syks := zks
    obtain ⟨c0v, c0m⟩ := Pm.two k0
    obtain ⟨c1v, c1m⟩ := Pm.two k1
    obtain ⟨csv, csm⟩ := Pm.two ks
    have tk3 : True := trivial
    go_wp2_with (go_at_call 44; clear tk3; refine (Lm.toMatch_any _ _ _ _ _ _ _ _ _ _ _ r0v r0m).mono ?_; rintro e w17 ⟨gx0v, gx0m, rfl, hb, gx0lv, gx0lm, gx0ne, hx0v, hx0m⟩; have sz4 := hb.size; clear c0v c0m c1v c1m csv csm; replace B := Rw.next B hb; replace k0 := (hb.block _ zk0).trans k0; replace zk0 := Nat.lt_of_lt_of_le zk0 hb.size; replace k1 := (hb.block _ zk1).trans k1; replace zk1 := Nat.lt_of_lt_of_le zk1 hb.size; replace r0v := r0v.below hb; replace r0m := r0m.below hb; replace r1v := r1v.below hb; replace r1m := r1m.below hb; replace hsv := hsv.below hb; replace hsm := hsm.below hb; replace ks := (hb.block _ zks).trans ks; replace zks := Nat.lt_of_lt_of_le zks hb.size; clear hb; have ltx0v := hx0v.row.lt; have ltx0m := hx0m.row.lt; have BX := Pl.below_alloc1 w17 (.cells #[.slice (some ⟨gx0v, 0, none⟩) V0.length V0.length, .slice (some ⟨gx0m, 0, none⟩) M0.length M0.length] 63); replace B := Rw.next B BX; replace k0 := (BX.block _ zk0).trans k0; replace zk0 := Nat.lt_of_lt_of_le zk0 BX.size; replace k1 := (BX.block _ zk1).trans k1; replace zk1 := Nat.lt_of_lt_of_le zk1 BX.size; replace r0v := r0v.below BX; replace r0m := r0m.below BX; replace r1v := r1v.below BX; replace r1m := r1m.below BX; replace hsv := hsv.below BX; replace hsm := hsm.below BX; replace ks := (BX.block _ zks).trans ks; replace zks := Nat.lt_of_lt_of_le zks BX.size; replace hx0v := hx0v.below BX; replace hx0m := hx0m.below BX; have kx0 : (w17.alloc (.cells #[.slice (some ⟨gx0v, 0, none⟩) V0.length V0.length, .slice (some ⟨gx0m, 0, none⟩) M0.length M0.length] 63)).heap[w17.heap.size]? = some (.cells #[.slice (some ⟨gx0v, 0, none⟩) V0.length V0.length, .slice (some ⟨gx0m, 0, none⟩) M0.length M0.length] 63 (0, 0)) := Pl.at_new rfl; have zkx0 : w17.heap.size < (w17.alloc (.cells #[.slice (some ⟨gx0v, 0, none⟩) V0.length V0.length, .slice (some ⟨gx0m, 0, none⟩) M0.length M0.length] 63)).heap.size := (by simp); have sykx0 := zkx0; clear BX; obtain ⟨c0v, c0m⟩ := Pm.two k0; obtain ⟨c1v, c1m⟩ := Pm.two k1; obtain ⟨csv, csm⟩ := Pm.two ks; obtain ⟨x0v, x0m⟩ := Pm.two kx0)
    have tk4 : True := trivial
    go_wp2_with (go_at_call 44; clear tk4; refine (Lm.toMatch_any _ _ _ _ _ _ _ _ _ _ _ r1v r1m).mono ?_; rintro e w18 ⟨gx1v, gx1m, rfl, hb, gx1lv, gx1lm, gx1ne, hx1v, hx1m⟩; have sz5 := hb.size; clear c0v c0m c1v c1m csv csm x0v x0m; replace B := Rw.next B hb; replace k0 := (hb.block _ zk0).trans k0; replace zk0 := Nat.lt_of_lt_of_le zk0 hb.size; replace k1 := (hb.block _ zk1).trans k1; replace zk1 := Nat.lt_of_lt_of_le zk1 hb.size; replace r0v := r0v.below hb; replace r0m := r0m.below hb; replace r1v := r1v.below hb; replace r1m := r1m.below hb; replace hsv := hsv.below hb; replace hsm := hsm.below hb; replace ks := (hb.block _ zks).trans ks; replace zks := Nat.lt_of_lt_of_le zks hb.size; replace hx0v := hx0v.below hb; replace hx0m := hx0m.below hb; replace kx0 := (hb.block _ zkx0).trans kx0; replace zkx0 := Nat.lt_of_lt_of_le zkx0 hb.size; clear hb; have ltx1v := hx1v.row.lt; have ltx1m := hx1m.row.lt; have BX := Pl.below_alloc1 w18 (.cells #[.slice (some ⟨gx1v, 0, none⟩) V1.length V1.length, .slice (some ⟨gx1m, 0, none⟩) M1.length M1.length] 63); replace B := Rw.next B BX; replace k0 := (BX.block _ zk0).trans k0; replace zk0 := Nat.lt_of_lt_of_le zk0 BX.size; replace k1 := (BX.block _ zk1).trans k1; replace zk1 := Nat.lt_of_lt_of_le zk1 BX.size; replace r0v := r0v.below BX; replace r0m := r0m.below BX; replace r1v := r1v.below BX; replace r1m := r1m.below BX; replace hsv := hsv.below BX; replace hsm := hsm.below BX; replace ks := (BX.block _ zks).trans ks; replace zks := Nat.lt_of_lt_of_le zks BX.size; replace hx0v := hx0v.below BX; replace hx0m := hx0m.below BX; replace kx0 := (BX.block _ zkx0).trans kx0; replace zkx0 := Nat.lt_of_lt_of_le zkx0 BX.size; replace hx1v := hx1v.below BX; replace hx1m := hx1m.below BX; have kx1 : (w18.alloc (.cells #[.slice (some ⟨gx1v, 0, none⟩) V1.length V1.length, .slice (some ⟨gx1m, 0, none⟩) M1.length M1.length] 63)).heap[w18.heap.size]? = some (.cells #[.slice (some ⟨gx1v, 0, none⟩) V1.length V1.length, .slice (some ⟨gx1m, 0, none⟩) M1.length M1.length] 63 (0, 0)) := Pl.at_new rfl; have zkx1 : w18.heap.size < (w18.alloc (.cells #[.slice (some ⟨gx1v, 0, none⟩) V1.length V1.length, .slice (some ⟨gx1m, 0, none⟩) M1.length M1.length] 63)).heap.size := (by simp); have sykx1 := zkx1; clear BX; obtain ⟨c0v, c0m⟩ := Pm.two k0; obtain ⟨c1v, c1m⟩ := Pm.two k1; obtain ⟨csv, csm⟩ := Pm.two ks; obtain ⟨x0v, x0m⟩ := Pm.two kx0; obtain ⟨x1v, x1m⟩ := Pm.two kx1)
    have tk5 : True := trivial
    go_wp2_with (go_at_call 45; clear tk5; refine (HI.out _ _ _ _ _ _ _ _ _ _ _ _ _ _ _ _ _ hx0v.rd hx0m.rd hx1v.rd hx1m.rd).mono ?_; rintro e w19 ⟨ga, gv, gc, gb, gm, gd, rfl, hgv, hgm, glv, glm, gne, hb⟩; have sz6 := hb.size; clear c0v c0m c1v c1m csv csm x0v x0m x1v x1m; replace B := Rw.next B hb; replace k0 := (hb.block _ zk0).trans k0; replace zk0 := Nat.lt_of_lt_of_le zk0 hb.size; replace k1 := (hb.block _ zk1).trans k1; replace zk1 := Nat.lt_of_lt_of_le zk1 hb.size; replace r0v := r0v.below hb; replace r0m := r0m.below hb; replace r1v := r1v.below hb; replace r1m := r1m.below hb; replace hsv := hsv.below hb; replace hsm := hsm.below hb; replace ks := (hb.block _ zks).trans ks; replace zks := Nat.lt_of_lt_of_le zks hb.size; replace hx0v := hx0v.below hb; replace hx0m := hx0m.below hb; replace kx0 := (hb.block _ zkx0).trans kx0; replace zkx0 := Nat.lt_of_lt_of_le zkx0 hb.size; replace hx1v := hx1v.below hb; replace hx1m := hx1m.below hb; replace kx1 := (hb.block _ zkx1).trans kx1; replace zkx1 := Nat.lt_of_lt_of_le zkx1 hb.size; clear hb; have ltgv := Hr.wt_lt hgv; have ltgm := Hr.wt_lt hgm; have BX := Pl.below_alloc1 w19 (.cells #[.slice ga LV.length gc, .slice gb LM.length gd] 63); replace B := Rw.next B BX; replace k0 := (BX.block _ zk0).trans k0; replace zk0 := Nat.lt_of_lt_of_le zk0 BX.size; replace k1 := (BX.block _ zk1).trans k1; replace zk1 := Nat.lt_of_lt_of_le zk1 BX.size; replace r0v := r0v.below BX; replace r0m := r0m.below BX; replace r1v := r1v.below BX; replace r1m := r1m.below BX; replace hsv := hsv.below BX; replace hsm := hsm.below BX; replace ks := (BX.block _ zks).trans ks; replace zks := Nat.lt_of_lt_of_le zks BX.size; replace hx0v := hx0v.below BX; replace hx0m := hx0m.below BX; replace kx0 := (BX.block _ zkx0).trans kx0; replace zkx0 := Nat.lt_of_lt_of_le zkx0 BX.size; replace hx1v := hx1v.below BX; replace hx1m := hx1m.below BX; replace kx1 := (BX.block _ zkx1).trans kx1; replace zkx1 := Nat.lt_of_lt_of_le zkx1 BX.size; replace hgv := hgv.below BX; replace hgm := hgm.below BX; have kg : (w19.alloc (.cells #[.slice ga LV.length gc, .slice gb LM.length gd] 63)).heap[w19.heap.size]? = some (.cells #[.slice ga LV.length gc, .slice gb LM.length gd] 63 (0, 0)) := Pl.at_new rfl; have zkg : w19.heap.size < (w19.alloc (.cells #[.slice ga LV.length gc, .slice gb LM.length gd] 63)).heap.size := (by simp); have sykg := zkg; clear BX; obtain ⟨c0v, c0m⟩ := Pm.two k0; obtain ⟨c1v, c1m⟩ := Pm.two k1; obtain ⟨csv, csm⟩ := Pm.two ks; obtain ⟨x0v, x0m⟩ := Pm.two kx0; obtain ⟨x1v, x1m⟩ := Pm.two kx1; obtain ⟨cgv, cgm⟩ := Pm.two kg)
    have tk6 : True := trivial
    go_wp2_with (go_at_call 46; clear tk6; refine (Lm.eqMatch_same _ _ _ _ _ _ _ _ _ _ _ _ _ _ _ _ LV LM _ hgv.rd hgm.rd hsv.rd hsm.rd).mono ?_; rintro e w20 ⟨rfl, hb⟩; have sz7 := hb.size; clear c0v c0m c1v c1m csv csm x0v x0m x1v x1m cgv cgm; replace B := Rw.next B hb; replace k0 := (hb.block _ zk0).trans k0; replace zk0 := Nat.lt_of_lt_of_le zk0 hb.size; replace k1 := (hb.block _ zk1).trans k1; replace zk1 := Nat.lt_of_lt_of_le zk1 hb.size; replace r0v := r0v.below hb; replace r0m := r0m.below hb; replace r1v := r1v.below hb; replace r1m := r1m.below hb; replace hsv := hsv.below hb; replace hsm := hsm.below hb; replace ks := (hb.block _ zks).trans ks; replace zks := Nat.lt_of_lt_of_le zks hb.size; replace hx0v := hx0v.below hb; replace hx0m := hx0m.below hb; replace kx0 := (hb.block _ zkx0).trans kx0; replace zkx0 := Nat.lt_of_lt_of_le zkx0 hb.size; replace hx1v := hx1v.below hb; replace hx1m := hx1m.below hb; replace kx1 := (hb.block _ zkx1).trans kx1; replace zkx1 := Nat.lt_of_lt_of_le zkx1 hb.size; replace hgv := hgv.below hb; replace hgm := hgm.below hb; replace kg := (hb.block _ zkg).trans kg; replace zkg := Nat.lt_of_lt_of_le zkg hb.size; clear hb; obtain ⟨c0v, c0m⟩ := Pm.two k0; obtain ⟨c1v, c1m⟩ := Pm.two k1; obtain ⟨csv, csm⟩ := Pm.two ks; obtain ⟨x0v, x0m⟩ := Pm.two kx0; obtain ⟨x1v, x1m⟩ := Pm.two kx1; obtain ⟨cgv, cgm⟩ := Pm.two kg)
    go_wp2_with fail
    clear c0v c0m c1v c1m csv csm x0v x0m x1v x1m cgv cgm
    refine wp_region_held_drew (S := (fun w' => w'.heap[w17.heap.size]? = some (.cells #[.slice (some ⟨gx0v, 0, none⟩) V0.length V0.length, .slice (some ⟨gx0m, 0, none⟩) M0.length M0.length] 63 (0, 0)) ∧ w'.heap[w.heap.size]? = some (.cells #[.slice a0v V0.length c0v, .slice a0m M0.length c0m] 61 (0, 0)))) (by kernel_rfl) ⟨kx0, k0⟩ (fun hHeld => ?_)
    have BD : Below w20.heap.size w20 w20.drew := (Below.refl _ _).drew
    have syd20 : w20.heap.size ≤ w20.drew.heap.size := Nat.le_refl _
    replace B := Rw.next B BD
    replace k0 := (BD.block _ zk0).trans k0
    replace zk0 := Nat.lt_of_lt_of_le zk0 BD.size
    replace k1 := (BD.block _ zk1).trans k1
    replace zk1 := Nat.lt_of_lt_of_le zk1 BD.size
    replace r0v := r0v.below BD
    replace r0m := r0m.below BD
    replace r1v := r1v.below BD
    replace r1m := r1m.below BD
    replace hsv := hsv.below BD
    replace hsm := hsm.below BD
    replace ks := (BD.block _ zks).trans ks
    replace zks := Nat.lt_of_lt_of_le zks BD.size
    replace hx0v := hx0v.below BD
    replace hx0m := hx0m.below BD
    replace kx0 := (BD.block _ zkx0).trans kx0
    replace zkx0 := Nat.lt_of_lt_of_le zkx0 BD.size
    replace hx1v := hx1v.below BD
    replace hx1m := hx1m.below BD
    replace kx1 := (BD.block _ zkx1).trans kx1
    replace zkx1 := Nat.lt_of_lt_of_le zkx1 BD.size
    replace hgv := hgv.below BD
    replace hgm := hgm.below BD
    replace kg := (BD.block _ zkg).trans kg
    replace zkg := Nat.lt_of_lt_of_le zkg BD.size
    clear BD
    refine Pq.take (i := 0) (d := some 54) (v := .agg #[.slice (some ⟨gx0v, 0, none⟩) V0.length V0.length, .slice (some ⟨gx0m, 0, none⟩) M0.length M0.length]) rfl (by kernel_rfl) (by kernel_rfl) (by kernel_rfl) (by kernel_rfl) (fun _ _ _ h => h) (Or.inl ⟨by rfl, by intro w hSw; obtain ⟨q0, q1⟩ := hSw; obtain ⟨t0, t1⟩ := Pm.two q0; go_simp⟩) hHeld ?_
    simp only [Act.put, List.setIfInBounds_toArray, List.set_cons_zero, List.set_cons_succ]
    refine Pq.take (i := 1) (d := some 55) (v := .agg #[.slice a0v V0.length c0v, .slice a0m M0.length c0m]) rfl (by kernel_rfl) (by kernel_rfl) (by kernel_rfl) (by kernel_rfl) (fun _ _ _ h => h) (Or.inl ⟨by rfl, by intro w hSw; obtain ⟨q0, q1⟩ := hSw; obtain ⟨t0, t1⟩ := Pm.two q1; go_simp⟩) hHeld ?_
    simp only [Act.put, List.setIfInBounds_toArray, List.set_cons_zero, List.set_cons_succ]
    refine wpAnyH_ready (rs := [2]) (by kernel_rfl) (by simp) (Rg.call1 rfl (by kernel_rfl) 44 (.tmp 55) 61 (by kernel_rfl) 56 (by kernel_rfl) (.agg #[.slice a0v V0.length c0v, .slice a0m M0.length c0m]) (by kernel_rfl) (fun _ => rfl) (Lm.toMatch_any _ _ _ _ _ _ _ _ _ _ _ r0v r0m) ?_ AllReadyH.nil)
    rintro e w21 ⟨gyv, gym, rfl, hb, gylv, gylm, gyne, hyv, hym⟩
    refine ⟨_, rfl, ⟨(hb.block _ zkx0).trans kx0, (hb.block _ zk0).trans k0⟩, fun hHeld => ?_⟩
    simp only [Act.put, List.setIfInBounds_toArray, List.set_cons_zero, List.set_cons_succ]
    have sz8 := hb.size
    replace B := Rw.next B hb
    replace k0 := (hb.block _ zk0).trans k0
    replace zk0 := Nat.lt_of_lt_of_le zk0 hb.size
    replace k1 := (hb.block _ zk1).trans k1
    replace zk1 := Nat.lt_of_lt_of_le zk1 hb.size
    replace r0v := r0v.below hb
    replace r0m := r0m.below hb
    replace r1v := r1v.below hb
    replace r1m := r1m.below hb
    replace hsv := hsv.below hb
    replace hsm := hsm.below hb
    replace ks := (hb.block _ zks).trans ks
    replace zks := Nat.lt_of_lt_of_le zks hb.size
    replace hx0v := hx0v.below hb
    replace hx0m := hx0m.below hb
    replace kx0 := (hb.block _ zkx0).trans kx0
    replace zkx0 := Nat.lt_of_lt_of_le zkx0 hb.size
    replace hx1v := hx1v.below hb
    replace hx1m := hx1m.below hb
    replace kx1 := (hb.block _ zkx1).trans kx1
    replace zkx1 := Nat.lt_of_lt_of_le zkx1 hb.size
    replace hgv := hgv.below hb
    replace hgm := hgm.below hb
    replace kg := (hb.block _ zkg).trans kg
    replace zkg := Nat.lt_of_lt_of_le zkg hb.size
    clear hb
    refine wpAnyH_ready (rs := [3]) (by kernel_rfl) (by simp) (Rg.call2 rfl (by kernel_rfl) 46 (.tmp 54) (.tmp 56) 63 63 (by kernel_rfl) 57 (by kernel_rfl) (.agg #[.slice (some ⟨gx0v, 0, none⟩) V0.length V0.length, .slice (some ⟨gx0m, 0, none⟩) M0.length M0.length]) (.agg #[.slice (some ⟨gyv, 0, none⟩) V0.length V0.length, .slice (some ⟨gym, 0, none⟩) M0.length M0.length]) (by kernel_rfl) (by kernel_rfl) (fun _ => rfl) (Lm.eqMatch_same _ _ _ _ _ _ _ _ _ _ _ _ _ _ _ _ V0 M0 _ hx0v.rd hx0m.rd hyv.rd hym.rd) ?_ AllReadyH.nil)
    rintro e w22 ⟨rfl, hb⟩
    refine ⟨_, rfl, ⟨(hb.block _ zkx0).trans kx0, (hb.block _ zk0).trans k0⟩, fun hHeld => ?_⟩
    simp only [Act.put, List.setIfInBounds_toArray, List.set_cons_zero, List.set_cons_succ]
    have sz9 := hb.size
    replace B := Rw.next B hb
    replace k0 := (hb.block _ zk0).trans k0
    replace zk0 := Nat.lt_of_lt_of_le zk0 hb.size
    replace k1 := (hb.block _ zk1).trans k1
    replace zk1 := Nat.lt_of_lt_of_le zk1 hb.size
    replace r0v := r0v.below hb
    replace r0m := r0m.below hb
    replace r1v := r1v.below hb
    replace r1m := r1m.below hb
    replace hsv := hsv.below hb
    replace hsm := hsm.below hb
    replace ks := (hb.block _ zks).trans ks
    replace zks := Nat.lt_of_lt_of_le zks hb.size
    replace hx0v := hx0v.below hb
    replace hx0m := hx0m.below hb
    replace kx0 := (hb.block _ zkx0).trans kx0
    replace zkx0 := Nat.lt_of_lt_of_le zkx0 hb.size
    replace hx1v := hx1v.below hb
    replace hx1m := hx1m.below hb
    replace kx1 := (hb.block _ zkx1).trans kx1
    replace zkx1 := Nat.lt_of_lt_of_le zkx1 hb.size
    replace hgv := hgv.below hb
    replace hgm := hgm.below hb
    replace kg := (hb.block _ zkg).trans kg
    replace zkg := Nat.lt_of_lt_of_le zkg hb.size
    replace hyv := hyv.below hb
    replace hym := hym.below hb
    clear hb
    clear hyv hym
    refine Pq.take (i := 4) (d := some 58) (v := .bool false) rfl (by kernel_rfl) (by kernel_rfl) (by kernel_rfl) (by kernel_rfl) (fun _ _ _ h => h) (Or.inl ⟨by rfl, by intro w hSw; go_simp⟩) hHeld ?_
    simp only [Act.put, List.setIfInBounds_toArray, List.set_cons_zero, List.set_cons_succ]
    refine wpAnyH_done (by kernel_rfl) ?_ _
    obtain ⟨c0v, c0m⟩ := Pm.two k0
    obtain ⟨c1v, c1m⟩ := Pm.two k1
    obtain ⟨csv, csm⟩ := Pm.two ks
    obtain ⟨x0v, x0m⟩ := Pm.two kx0
    obtain ⟨x1v, x1m⟩ := Pm.two kx1
    obtain ⟨cgv, cgm⟩ := Pm.two kg
    go_wp2_with fail
    clear c0v c0m c1v c1m csv csm x0v x0m x1v x1m cgv cgm
    refine wp_region_held_drew (S := (fun w' => w'.heap[w18.heap.size]? = some (.cells #[.slice (some ⟨gx1v, 0, none⟩) V1.length V1.length, .slice (some ⟨gx1m, 0, none⟩) M1.length M1.length] 63 (0, 0)) ∧ w'.heap[w.heap.size + 1]? = some (.cells #[.slice a1v V1.length c1v, .slice a1m M1.length c1m] 61 (0, 0)))) (by kernel_rfl) ⟨kx1, k1⟩ (fun hHeld => ?_)
    have BD : Below w22.heap.size w22 w22.drew := (Below.refl _ _).drew
    have syd22 : w22.heap.size ≤ w22.drew.heap.size := Nat.le_refl _
    replace B := Rw.next B BD
    replace k0 := (BD.block _ zk0).trans k0
    replace zk0 := Nat.lt_of_lt_of_le zk0 BD.size
    replace k1 := (BD.block _ zk1).trans k1
    replace zk1 := Nat.lt_of_lt_of_le zk1 BD.size
    replace r0v := r0v.below BD
    replace r0m := r0m.below BD
    replace r1v := r1v.below BD
    replace r1m := r1m.below BD
    replace hsv := hsv.below BD
    replace hsm := hsm.below BD
    replace ks := (BD.block _ zks).trans ks
    replace zks := Nat.lt_of_lt_of_le zks BD.size
    replace hx0v := hx0v.below BD
    replace hx0m := hx0m.below BD
    replace kx0 := (BD.block _ zkx0).trans kx0
    replace zkx0 := Nat.lt_of_lt_of_le zkx0 BD.size
    replace hx1v := hx1v.below BD
    replace hx1m := hx1m.below BD
    replace kx1 := (BD.block _ zkx1).trans kx1
    replace zkx1 := Nat.lt_of_lt_of_le zkx1 BD.size
    replace hgv := hgv.below BD
    replace hgm := hgm.below BD
    replace kg := (BD.block _ zkg).trans kg
    replace zkg := Nat.lt_of_lt_of_le zkg BD.size
    clear BD
    refine Pq.take (i := 0) (d := some 59) (v := .agg #[.slice (some ⟨gx1v, 0, none⟩) V1.length V1.length, .slice (some ⟨gx1m, 0, none⟩) M1.length M1.length]) rfl (by kernel_rfl) (by kernel_rfl) (by kernel_rfl) (by kernel_rfl) (fun _ _ _ h => h) (Or.inl ⟨by rfl, by intro w hSw; obtain ⟨q0, q1⟩ := hSw; obtain ⟨t0, t1⟩ := Pm.two q0; go_simp⟩) hHeld ?_
    simp only [Act.put, List.setIfInBounds_toArray, List.set_cons_zero, List.set_cons_succ]
    refine Pq.take (i := 1) (d := some 60) (v := .agg #[.slice a1v V1.length c1v, .slice a1m M1.length c1m]) rfl (by kernel_rfl) (by kernel_rfl) (by kernel_rfl) (by kernel_rfl) (fun _ _ _ h => h) (Or.inl ⟨by rfl, by intro w hSw; obtain ⟨q0, q1⟩ := hSw; obtain ⟨t0, t1⟩ := Pm.two q1; go_simp⟩) hHeld ?_
    simp only [Act.put, List.setIfInBounds_toArray, List.set_cons_zero, List.set_cons_succ]
    refine wpAnyH_ready (rs := [2]) (by kernel_rfl) (by simp) (Rg.call1 rfl (by kernel_rfl) 44 (.tmp 60) 61 (by kernel_rfl) 61 (by kernel_rfl) (.agg #[.slice a1v V1.length c1v, .slice a1m M1.length c1m]) (by kernel_rfl) (fun _ => rfl) (Lm.toMatch_any _ _ _ _ _ _ _ _ _ _ _ r1v r1m) ?_ AllReadyH.nil)
    rintro e w23 ⟨gyv, gym, rfl, hb, gylv, gylm, gyne, hyv, hym⟩
    refine ⟨_, rfl, ⟨(hb.block _ zkx1).trans kx1, (hb.block _ zk1).trans k1⟩, fun hHeld => ?_⟩
    simp only [Act.put, List.setIfInBounds_toArray, List.set_cons_zero, List.set_cons_succ]
    have sz10 := hb.size
    replace B := Rw.next B hb
    replace k0 := (hb.block _ zk0).trans k0
    replace zk0 := Nat.lt_of_lt_of_le zk0 hb.size
    replace k1 := (hb.block _ zk1).trans k1
    replace zk1 := Nat.lt_of_lt_of_le zk1 hb.size
    replace r0v := r0v.below hb
    replace r0m := r0m.below hb
    replace r1v := r1v.below hb
    replace r1m := r1m.below hb
    replace hsv := hsv.below hb
    replace hsm := hsm.below hb
    replace ks := (hb.block _ zks).trans ks
    replace zks := Nat.lt_of_lt_of_le zks hb.size
    replace hx0v := hx0v.below hb
    replace hx0m := hx0m.below hb
    replace kx0 := (hb.block _ zkx0).trans kx0
    replace zkx0 := Nat.lt_of_lt_of_le zkx0 hb.size
    replace hx1v := hx1v.below hb
    replace hx1m := hx1m.below hb
    replace kx1 := (hb.block _ zkx1).trans kx1
    replace zkx1 := Nat.lt_of_lt_of_le zkx1 hb.size
    replace hgv := hgv.below hb
    replace hgm := hgm.below hb
    replace kg := (hb.block _ zkg).trans kg
    replace zkg := Nat.lt_of_lt_of_le zkg hb.size
    clear hb
    refine wpAnyH_ready (rs := [3]) (by kernel_rfl) (by simp) (Rg.call2 rfl (by kernel_rfl) 46 (.tmp 59) (.tmp 61) 63 63 (by kernel_rfl) 62 (by kernel_rfl) (.agg #[.slice (some ⟨gx1v, 0, none⟩) V1.length V1.length, .slice (some ⟨gx1m, 0, none⟩) M1.length M1.length]) (.agg #[.slice (some ⟨gyv, 0, none⟩) V1.length V1.length, .slice (some ⟨gym, 0, none⟩) M1.length M1.length]) (by kernel_rfl) (by kernel_rfl) (fun _ => rfl) (Lm.eqMatch_same _ _ _ _ _ _ _ _ _ _ _ _ _ _ _ _ V1 M1 _ hx1v.rd hx1m.rd hyv.rd hym.rd) ?_ AllReadyH.nil)
    rintro e w24 ⟨rfl, hb⟩
    refine ⟨_, rfl, ⟨(hb.block _ zkx1).trans kx1, (hb.block _ zk1).trans k1⟩, fun hHeld => ?_⟩
    simp only [Act.put, List.setIfInBounds_toArray, List.set_cons_zero, List.set_cons_succ]
    have sz11 := hb.size
    replace B := Rw.next B hb
    replace k0 := (hb.block _ zk0).trans k0
    replace zk0 := Nat.lt_of_lt_of_le zk0 hb.size
    replace k1 := (hb.block _ zk1).trans k1
    replace zk1 := Nat.lt_of_lt_of_le zk1 hb.size
    replace r0v := r0v.below hb
    replace r0m := r0m.below hb
    replace r1v := r1v.below hb
    replace r1m := r1m.below hb
    replace hsv := hsv.below hb
    replace hsm := hsm.below hb
    replace ks := (hb.block _ zks).trans ks
    replace zks := Nat.lt_of_lt_of_le zks hb.size
    replace hx0v := hx0v.below hb
    replace hx0m := hx0m.below hb
    replace kx0 := (hb.block _ zkx0).trans kx0
    replace zkx0 := Nat.lt_of_lt_of_le zkx0 hb.size
    replace hx1v := hx1v.below hb
    replace hx1m := hx1m.below hb
    replace kx1 := (hb.block _ zkx1).trans kx1
    replace zkx1 := Nat.lt_of_lt_of_le zkx1 hb.size
    replace hgv := hgv.below hb
    replace hgm := hgm.below hb
    replace kg := (hb.block _ zkg).trans kg
    replace zkg := Nat.lt_of_lt_of_le zkg hb.size
    replace hyv := hyv.below hb
    replace hym := hym.below hb
    clear hb
    clear hyv hym
    refine Pq.take (i := 4) (d := some 63) (v := .bool false) rfl (by kernel_rfl) (by kernel_rfl) (by kernel_rfl) (by kernel_rfl) (fun _ _ _ h => h) (Or.inl ⟨by rfl, by intro w hSw; go_simp⟩) hHeld ?_
    simp only [Act.put, List.setIfInBounds_toArray, List.set_cons_zero, List.set_cons_succ]
    refine wpAnyH_done (by kernel_rfl) ?_ _
    obtain ⟨c0v, c0m⟩ := Pm.two k0
    obtain ⟨c1v, c1m⟩ := Pm.two k1
    obtain ⟨csv, csm⟩ := Pm.two ks
    obtain ⟨x0v, x0m⟩ := Pm.two kx0
    obtain ⟨x1v, x1m⟩ := Pm.two kx1
    obtain ⟨cgv, cgm⟩ := Pm.two kg
    have hk0 : ¬ (1 + (V0.length : Int) + (M0.length : Int) < 0) := by omega
    have HltV0 := hide ltV0
    clear ltV0
    have HltM0 := hide ltM0
    clear ltM0
    have HltV1 := hide ltV1
    clear ltV1
    have HltM1 := hide ltM1
    clear ltM1
    have HXsv := hide Xsv
    clear Xsv
    have HXsm := hide Xsm
    clear Xsm
    have Hltsv := hide ltsv
    clear ltsv
    have Hltsm := hide ltsm
    clear ltsm
    have Hltgv := hide ltgv
    clear ltgv
    have Hltgm := hide ltgm
    clear ltgm
    have Hsne := hide sne
    clear sne
    have Hgx0ne := hide gx0ne
    clear gx0ne
    have Hgx1ne := hide gx1ne
    clear gx1ne
    have Hgne := hide gne
    clear gne
    have Hgyne := hide gyne
    clear gyne
    have tk7 : True := trivial
    go_wp2_with (go_at_call 47; clear tk7; refine (Lm.markM_any (1) (by omega) (by omega) _ _ _ _ _ _ _ _ _ (Hr.mine_wt hx0v) (Hr.mine_wt hx0m) Hgx0ne.out).mono ?_; rintro e w25 ⟨rfl, hk, hxn, hxm⟩; have sz12 := hk.size; clear c0v c0m c1v c1m csv csm x0v x0m x1v x1m cgv cgm; replace B := Mf.Kept2.below B B.size hk (by omega) (by omega); replace k0 := (hk.block _ zk0 (by omega) (by omega)).trans k0; replace zk0 := Nat.lt_of_lt_of_le zk0 hk.size; replace k1 := (hk.block _ zk1 (by omega) (by omega)).trans k1; replace zk1 := Nat.lt_of_lt_of_le zk1 hk.size; replace r0v := hk.rd r0v (HltV0.out.imp id (fun hh => by omega)); replace r0m := hk.rd r0m (HltM0.out.imp id (fun hh => by omega)); replace r1v := hk.rd r1v (HltV1.out.imp id (fun hh => by omega)); replace r1m := hk.rd r1m (HltM1.out.imp id (fun hh => by omega)); replace hsv := hk.wt hsv (Hltsv.out.imp id (fun hh => by omega)); replace hsm := hk.wt hsm (Hltsm.out.imp id (fun hh => by omega)); replace ks := (hk.block _ zks (by omega) (by omega)).trans ks; replace zks := Nat.lt_of_lt_of_le zks hk.size; replace kx0 := (hk.block _ zkx0 (by omega) (by omega)).trans kx0; replace zkx0 := Nat.lt_of_lt_of_le zkx0 hk.size; replace hx1v := Lk.mine_kept2 hk hx1v (by omega); replace hx1m := Lk.mine_kept2 hk hx1m (by omega); replace kx1 := (hk.block _ zkx1 (by omega) (by omega)).trans kx1; replace zkx1 := Nat.lt_of_lt_of_le zkx1 hk.size; replace hgv := hk.wt hgv (by omega); replace hgm := hk.wt hgm (by omega); replace kg := (hk.block _ zkg (by omega) (by omega)).trans kg; replace zkg := Nat.lt_of_lt_of_le zkg hk.size; clear hk hxn hxm hx0v hx0m; obtain ⟨c0v, c0m⟩ := Pm.two k0; obtain ⟨c1v, c1m⟩ := Pm.two k1; obtain ⟨csv, csm⟩ := Pm.two ks; obtain ⟨x0v, x0m⟩ := Pm.two kx0; obtain ⟨x1v, x1m⟩ := Pm.two kx1; obtain ⟨cgv, cgm⟩ := Pm.two kg)
    have hk1 : ¬ (1 + (V0.length : Int) + (M0.length : Int) + (V1.length : Int) + (M1.length : Int) < 0) := by omega
    have tk8 : True := trivial
    go_wp2_with (go_at_call 47; clear tk8; refine (Lm.markM_any (1 + (V0.length : Int) + (M0.length : Int)) (by omega) (by omega) _ _ _ _ _ _ _ _ _ (Hr.mine_wt hx1v) (Hr.mine_wt hx1m) Hgx1ne.out).mono ?_; rintro e w26 ⟨rfl, hk, hxn, hxm⟩; have sz13 := hk.size; clear c0v c0m c1v c1m csv csm x0v x0m x1v x1m cgv cgm; replace B := Mf.Kept2.below B B.size hk (by omega) (by omega); replace k0 := (hk.block _ zk0 (by omega) (by omega)).trans k0; replace zk0 := Nat.lt_of_lt_of_le zk0 hk.size; replace k1 := (hk.block _ zk1 (by omega) (by omega)).trans k1; replace zk1 := Nat.lt_of_lt_of_le zk1 hk.size; replace r0v := hk.rd r0v (HltV0.out.imp id (fun hh => by omega)); replace r0m := hk.rd r0m (HltM0.out.imp id (fun hh => by omega)); replace r1v := hk.rd r1v (HltV1.out.imp id (fun hh => by omega)); replace r1m := hk.rd r1m (HltM1.out.imp id (fun hh => by omega)); replace hsv := hk.wt hsv (Hltsv.out.imp id (fun hh => by omega)); replace hsm := hk.wt hsm (Hltsm.out.imp id (fun hh => by omega)); replace ks := (hk.block _ zks (by omega) (by omega)).trans ks; replace zks := Nat.lt_of_lt_of_le zks hk.size; replace kx0 := (hk.block _ zkx0 (by omega) (by omega)).trans kx0; replace zkx0 := Nat.lt_of_lt_of_le zkx0 hk.size; replace kx1 := (hk.block _ zkx1 (by omega) (by omega)).trans kx1; replace zkx1 := Nat.lt_of_lt_of_le zkx1 hk.size; replace hgv := hk.wt hgv (by omega); replace hgm := hk.wt hgm (by omega); replace kg := (hk.block _ zkg (by omega) (by omega)).trans kg; replace zkg := Nat.lt_of_lt_of_le zkg hk.size; clear hk hxn hxm hx1v hx1m; obtain ⟨c0v, c0m⟩ := Pm.two k0; obtain ⟨c1v, c1m⟩ := Pm.two k1; obtain ⟨csv, csm⟩ := Pm.two ks; obtain ⟨x0v, x0m⟩ := Pm.two kx0; obtain ⟨x1v, x1m⟩ := Pm.two kx1; obtain ⟨cgv, cgm⟩ := Pm.two kg)
    have tk9 : True := trivial
    go_wp2_with (go_at_call 46; clear tk9; refine (Lm.eqMatch_same _ _ _ _ _ _ _ _ _ _ _ _ _ _ _ _ LV LM _ hgv.rd hgm.rd hsv.rd hsm.rd).mono ?_; rintro e w27 ⟨rfl, hb⟩; have sz14 := hb.size; clear c0v c0m c1v c1m csv csm x0v x0m x1v x1m cgv cgm; replace B := Rw.next B hb; replace k0 := (hb.block _ zk0).trans k0; replace zk0 := Nat.lt_of_lt_of_le zk0 hb.size; replace k1 := (hb.block _ zk1).trans k1; replace zk1 := Nat.lt_of_lt_of_le zk1 hb.size; replace r0v := r0v.below hb; replace r0m := r0m.below hb; replace r1v := r1v.below hb; replace r1m := r1m.below hb; replace hsv := hsv.below hb; replace hsm := hsm.below hb; replace ks := (hb.block _ zks).trans ks; replace zks := Nat.lt_of_lt_of_le zks hb.size; replace kx0 := (hb.block _ zkx0).trans kx0; replace zkx0 := Nat.lt_of_lt_of_le zkx0 hb.size; replace kx1 := (hb.block _ zkx1).trans kx1; replace zkx1 := Nat.lt_of_lt_of_le zkx1 hb.size; replace hgv := hgv.below hb; replace hgm := hgm.below hb; replace kg := (hb.block _ zkg).trans kg; replace zkg := Nat.lt_of_lt_of_le zkg hb.size; clear hb; obtain ⟨c0v, c0m⟩ := Pm.two k0; obtain ⟨c1v, c1m⟩ := Pm.two k1; obtain ⟨csv, csm⟩ := Pm.two ks; obtain ⟨x0v, x0m⟩ := Pm.two kx0; obtain ⟨x1v, x1m⟩ := Pm.two kx1; obtain ⟨cgv, cgm⟩ := Pm.two kg)
    have tk10 : True := trivial
    go_wp2_with (go_at_call 47; clear tk10; refine (Lm.markM_any 1 (by omega) (by omega) _ _ _ _ _ _ _ _ _ hgv hgm Hgne.out).mono ?_; rintro e w28 ⟨rfl, hk, hNv, hNm⟩; have sz15 := hk.size; clear c0v c0m c1v c1m csv csm x0v x0m x1v x1m cgv cgm; replace B := Mf.Kept2.below B B.size hk (by omega) (by omega); replace k0 := (hk.block _ zk0 (by omega) (by omega)).trans k0; replace zk0 := Nat.lt_of_lt_of_le zk0 hk.size; replace k1 := (hk.block _ zk1 (by omega) (by omega)).trans k1; replace zk1 := Nat.lt_of_lt_of_le zk1 hk.size; replace r0v := hk.rd r0v (HltV0.out.imp id (fun hh => by omega)); replace r0m := hk.rd r0m (HltM0.out.imp id (fun hh => by omega)); replace r1v := hk.rd r1v (HltV1.out.imp id (fun hh => by omega)); replace r1m := hk.rd r1m (HltM1.out.imp id (fun hh => by omega)); replace hsv := hk.wt hsv (Hltsv.out.imp id (fun hh => by omega)); replace hsm := hk.wt hsm (Hltsm.out.imp id (fun hh => by omega)); replace ks := (hk.block _ zks (by omega) (by omega)).trans ks; replace zks := Nat.lt_of_lt_of_le zks hk.size; replace kx0 := (hk.block _ zkx0 (by omega) (by omega)).trans kx0; replace zkx0 := Nat.lt_of_lt_of_le zkx0 hk.size; replace kx1 := (hk.block _ zkx1 (by omega) (by omega)).trans kx1; replace zkx1 := Nat.lt_of_lt_of_le zkx1 hk.size; replace kg := (hk.block _ zkg (Hltgv.out.imp id (fun hh => by omega)) (Hltgm.out.imp id (fun hh => by omega))).trans kg; replace zkg := Nat.lt_of_lt_of_le zkg hk.size; clear hk hgv hgm; obtain ⟨c0v, c0m⟩ := Pm.two k0; obtain ⟨c1v, c1m⟩ := Pm.two k1; obtain ⟨csv, csm⟩ := Pm.two ks; obtain ⟨x0v, x0m⟩ := Pm.two kx0; obtain ⟨x1v, x1m⟩ := Pm.two kx1; obtain ⟨cgv, cgm⟩ := Pm.two kg)
    have hq0 : ¬ (1 + (LV.length : Int) + (LM.length : Int) < 0) := by omega
    have tk11 : True := trivial
    go_wp2_with (go_at_call 48; clear tk11; refine (Lm.heldM_any 1 (by omega) (by omega) _ _ _ _ _ _ _ _ _ hNv hNm).mono ?_; rintro e w29 ⟨rfl, hb⟩; have sz16 := hb.size; clear c0v c0m c1v c1m csv csm x0v x0m x1v x1m cgv cgm; replace B := Rw.next B hb; replace k0 := (hb.block _ zk0).trans k0; replace zk0 := Nat.lt_of_lt_of_le zk0 hb.size; replace k1 := (hb.block _ zk1).trans k1; replace zk1 := Nat.lt_of_lt_of_le zk1 hb.size; replace r0v := r0v.below hb; replace r0m := r0m.below hb; replace r1v := r1v.below hb; replace r1m := r1m.below hb; replace hsv := hsv.below hb; replace hsm := hsm.below hb; replace ks := (hb.block _ zks).trans ks; replace zks := Nat.lt_of_lt_of_le zks hb.size; replace kx0 := (hb.block _ zkx0).trans kx0; replace zkx0 := Nat.lt_of_lt_of_le zkx0 hb.size; replace kx1 := (hb.block _ zkx1).trans kx1; replace zkx1 := Nat.lt_of_lt_of_le zkx1 hb.size; replace kg := (hb.block _ zkg).trans kg; replace zkg := Nat.lt_of_lt_of_le zkg hb.size; replace hNv := hNv.below hb; replace hNm := hNm.below hb; clear hb; obtain ⟨c0v, c0m⟩ := Pm.two k0; obtain ⟨c1v, c1m⟩ := Pm.two k1; obtain ⟨csv, csm⟩ := Pm.two ks; obtain ⟨x0v, x0m⟩ := Pm.two kx0; obtain ⟨x1v, x1m⟩ := Pm.two kx1; obtain ⟨cgv, cgm⟩ := Pm.two kg)
    go_wp2_with fail
    clear c0v c0m c1v c1m csv csm x0v x0m x1v x1m cgv cgm
    go_cut [15, 16] from 17 (fun s6 s7 wx => ∃ (X : Nat) (pa : Option Addr) (pv pc : Nat) (pb : Option Addr) (pm pd : Nat), s6 = .pointer (some ⟨X, 0, none⟩) ∧ s7 = .bool R ∧ wx.heap[X]? = some (.cells #[.slice pa LV.length pc, .slice pb LM.length pd] 63 (0, 0)) ∧ Hr.Wt wx pa pv LV ∧ Hr.Wt wx pb pm LM ∧ Below w29.heap.size w29 wx ∧ w29.heap.size ≤ pv ∧ w29.heap.size ≤ pm ∧ pv ≠ pm ∧ w29.heap.size ≤ X ∧ (LV.length = 0 ∨ pv ≠ X) ∧ (LM.length = 0 ∨ pm ≠ X))
    case first =>
      have BC := Below.refl w29.heap.size w29
      refine wp_region_held_drew (S := (fun w' => w'.heap[w.heap.size]? = some (.cells #[.slice a0v V0.length c0v, .slice a0m M0.length c0m] 61 (0, 0)) ∧ w'.heap[w.heap.size + 1]? = some (.cells #[.slice a1v V1.length c1v, .slice a1m M1.length c1m] 61 (0, 0)))) (by kernel_rfl) ⟨k0, k1⟩ (fun hHeld => ?_)
      have BD : Below w29.heap.size w29 w29.drew := (Below.refl _ _).drew
      have syd29 : w29.heap.size ≤ w29.drew.heap.size := Nat.le_refl _
      replace B := Rw.next B BD
      replace k0 := (BD.block _ zk0).trans k0
      replace zk0 := Nat.lt_of_lt_of_le zk0 BD.size
      replace k1 := (BD.block _ zk1).trans k1
      replace zk1 := Nat.lt_of_lt_of_le zk1 BD.size
      replace r0v := r0v.below BD
      replace r0m := r0m.below BD
      replace r1v := r1v.below BD
      replace r1m := r1m.below BD
      replace hsv := hsv.below BD
      replace hsm := hsm.below BD
      replace ks := (BD.block _ zks).trans ks
      replace zks := Nat.lt_of_lt_of_le zks BD.size
      replace kx0 := (BD.block _ zkx0).trans kx0
      replace zkx0 := Nat.lt_of_lt_of_le zkx0 BD.size
      replace kx1 := (BD.block _ zkx1).trans kx1
      replace zkx1 := Nat.lt_of_lt_of_le zkx1 BD.size
      replace kg := (BD.block _ zkg).trans kg
      replace zkg := Nat.lt_of_lt_of_le zkg BD.size
      replace hNv := hNv.below BD
      replace hNm := hNm.below BD
      replace BC := Rw.next BC BD
      clear BD
      refine Pq.take (i := 0) (d := some 95) (v := .agg #[.slice a0v V0.length c0v, .slice a0m M0.length c0m]) rfl (by kernel_rfl) (by kernel_rfl) (by kernel_rfl) (by kernel_rfl) (fun _ _ _ h => h) (Or.inl ⟨by rfl, by intro w hSw; obtain ⟨q0, q1⟩ := hSw; obtain ⟨t0, t1⟩ := Pm.two q0; go_simp⟩) hHeld ?_
      simp only [Act.put, List.setIfInBounds_toArray, List.set_cons_zero, List.set_cons_succ]
      refine Pq.take (i := 2) (d := some 97) (v := .agg #[.slice a1v V1.length c1v, .slice a1m M1.length c1m]) rfl (by kernel_rfl) (by kernel_rfl) (by kernel_rfl) (by kernel_rfl) (fun _ _ _ h => h) (Or.inl ⟨by rfl, by intro w hSw; obtain ⟨q0, q1⟩ := hSw; obtain ⟨t0, t1⟩ := Pm.two q1; go_simp⟩) hHeld ?_
      simp only [Act.put, List.setIfInBounds_toArray, List.set_cons_zero, List.set_cons_succ]
      refine wpAnyH_ready (rs := [1, 8]) (by kernel_rfl) (by simp) (Rg.call1 rfl (by kernel_rfl) 44 (.tmp 95) 61 (by kernel_rfl) 96 (by kernel_rfl) (.agg #[.slice a0v V0.length c0v, .slice a0m M0.length c0m]) (by kernel_rfl) (fun _ => rfl) (Lm.toMatch_any _ _ _ _ _ _ _ _ _ _ _ r0v r0m) ?_ (Ln.readyAlloc rfl (by kernel_rfl) (by kernel_rfl) 15 (by kernel_rfl) ⟨((Pl.below_alloc1 _ (.cells #[.slice none 0 0, .slice none 0 0] 63)).block _ zk0).trans k0, ((Pl.below_alloc1 _ (.cells #[.slice none 0 0, .slice none 0 0] 63)).block _ zk1).trans k1⟩ (fun hHeld => ?_) AllReadyH.nil))
      · rintro e w30 ⟨gav, gam, rfl, hb, galv, galm, gane, hh0v, hh0m⟩
        refine ⟨_, rfl, ⟨(hb.block _ zk0).trans k0, (hb.block _ zk1).trans k1⟩, fun hHeld => ?_⟩
        simp only [Act.put, List.setIfInBounds_toArray, List.set_cons_zero, List.set_cons_succ]
        have sz17 := hb.size
        replace B := Rw.next B hb
        replace k0 := (hb.block _ zk0).trans k0
        replace zk0 := Nat.lt_of_lt_of_le zk0 hb.size
        replace k1 := (hb.block _ zk1).trans k1
        replace zk1 := Nat.lt_of_lt_of_le zk1 hb.size
        replace r0v := r0v.below hb
        replace r0m := r0m.below hb
        replace r1v := r1v.below hb
        replace r1m := r1m.below hb
        replace hsv := hsv.below hb
        replace hsm := hsm.below hb
        replace ks := (hb.block _ zks).trans ks
        replace zks := Nat.lt_of_lt_of_le zks hb.size
        replace kx0 := (hb.block _ zkx0).trans kx0
        replace zkx0 := Nat.lt_of_lt_of_le zkx0 hb.size
        replace kx1 := (hb.block _ zkx1).trans kx1
        replace zkx1 := Nat.lt_of_lt_of_le zkx1 hb.size
        replace kg := (hb.block _ zkg).trans kg
        replace zkg := Nat.lt_of_lt_of_le zkg hb.size
        replace hNv := hNv.below hb
        replace hNm := hNm.below hb
        replace BC := Rw.next BC hb
        clear hb
        refine wpAnyH_ready (rs := [3, 8]) (by kernel_rfl) (by simp) (Rg.call1 rfl (by kernel_rfl) 44 (.tmp 97) 61 (by kernel_rfl) 98 (by kernel_rfl) (.agg #[.slice a1v V1.length c1v, .slice a1m M1.length c1m]) (by kernel_rfl) (fun _ => rfl) (Lm.toMatch_any _ _ _ _ _ _ _ _ _ _ _ r1v r1m) ?_ (Ln.readyAlloc rfl (by kernel_rfl) (by kernel_rfl) 15 (by kernel_rfl) ⟨((Pl.below_alloc1 _ (.cells #[.slice none 0 0, .slice none 0 0] 63)).block _ zk0).trans k0, ((Pl.below_alloc1 _ (.cells #[.slice none 0 0, .slice none 0 0] 63)).block _ zk1).trans k1⟩ (fun hHeld => ?_) AllReadyH.nil))
        · rintro e w31 ⟨gbv, gbm, rfl, hb, gblv, gblm, gbne, hh1v, hh1m⟩
          refine ⟨_, rfl, ⟨(hb.block _ zk0).trans k0, (hb.block _ zk1).trans k1⟩, fun hHeld => ?_⟩
          simp only [Act.put, List.setIfInBounds_toArray, List.set_cons_zero, List.set_cons_succ]
          have sz18 := hb.size
          replace B := Rw.next B hb
          replace k0 := (hb.block _ zk0).trans k0
          replace zk0 := Nat.lt_of_lt_of_le zk0 hb.size
          replace k1 := (hb.block _ zk1).trans k1
          replace zk1 := Nat.lt_of_lt_of_le zk1 hb.size
          replace r0v := r0v.below hb
          replace r0m := r0m.below hb
          replace r1v := r1v.below hb
          replace r1m := r1m.below hb
          replace hsv := hsv.below hb
          replace hsm := hsm.below hb
          replace ks := (hb.block _ zks).trans ks
          replace zks := Nat.lt_of_lt_of_le zks hb.size
          replace kx0 := (hb.block _ zkx0).trans kx0
          replace zkx0 := Nat.lt_of_lt_of_le zkx0 hb.size
          replace kx1 := (hb.block _ zkx1).trans kx1
          replace zkx1 := Nat.lt_of_lt_of_le zkx1 hb.size
          replace kg := (hb.block _ zkg).trans kg
          replace zkg := Nat.lt_of_lt_of_le zkg hb.size
          replace hNv := hNv.below hb
          replace hNm := hNm.below hb
          replace BC := Rw.next BC hb
          replace hh0v := hh0v.below hb
          replace hh0m := hh0m.below hb
          clear hb
          refine wpAnyH_ready (rs := [4, 8]) (by kernel_rfl) (by simp) (Rg.call2 rfl (by kernel_rfl) 45 (.tmp 96) (.tmp 98) 63 63 (by kernel_rfl) 99 (by kernel_rfl) (.agg #[.slice (some ⟨gav, 0, none⟩) V0.length V0.length, .slice (some ⟨gam, 0, none⟩) M0.length M0.length]) (.agg #[.slice (some ⟨gbv, 0, none⟩) V1.length V1.length, .slice (some ⟨gbm, 0, none⟩) M1.length M1.length]) (by kernel_rfl) (by kernel_rfl) (fun _ => rfl) (HI.out _ _ _ _ _ _ _ _ _ _ _ _ _ _ _ _ _ hh0v.rd hh0m.rd hh1v.rd hh1m.rd) ?_ (Ln.readyAlloc rfl (by kernel_rfl) (by kernel_rfl) 15 (by kernel_rfl) ⟨((Pl.below_alloc1 _ (.cells #[.slice none 0 0, .slice none 0 0] 63)).block _ zk0).trans k0, ((Pl.below_alloc1 _ (.cells #[.slice none 0 0, .slice none 0 0] 63)).block _ zk1).trans k1⟩ (fun hHeld => ?_) AllReadyH.nil))
          · rintro e w32 ⟨ta, tv, tc, tb, tm, td, rfl, htv, htm, tlv, tlm, tne, hb⟩
            refine ⟨_, rfl, ⟨(hb.block _ zk0).trans k0, (hb.block _ zk1).trans k1⟩, fun hHeld => ?_⟩
            simp only [Act.put, List.setIfInBounds_toArray, List.set_cons_zero, List.set_cons_succ]
            have sz19 := hb.size
            replace B := Rw.next B hb
            replace k0 := (hb.block _ zk0).trans k0
            replace zk0 := Nat.lt_of_lt_of_le zk0 hb.size
            replace k1 := (hb.block _ zk1).trans k1
            replace zk1 := Nat.lt_of_lt_of_le zk1 hb.size
            replace r0v := r0v.below hb
            replace r0m := r0m.below hb
            replace r1v := r1v.below hb
            replace r1m := r1m.below hb
            replace hsv := hsv.below hb
            replace hsm := hsm.below hb
            replace ks := (hb.block _ zks).trans ks
            replace zks := Nat.lt_of_lt_of_le zks hb.size
            replace kx0 := (hb.block _ zkx0).trans kx0
            replace zkx0 := Nat.lt_of_lt_of_le zkx0 hb.size
            replace kx1 := (hb.block _ zkx1).trans kx1
            replace zkx1 := Nat.lt_of_lt_of_le zkx1 hb.size
            replace kg := (hb.block _ zkg).trans kg
            replace zkg := Nat.lt_of_lt_of_le zkg hb.size
            replace hNv := hNv.below hb
            replace hNm := hNm.below hb
            replace BC := Rw.next BC hb
            replace hh0v := hh0v.below hb
            replace hh0m := hh0m.below hb
            replace hh1v := hh1v.below hb
            replace hh1m := hh1m.below hb
            clear hb
            have lttv := Hr.wt_lt htv
            have lttm := Hr.wt_lt htm
            refine Pq.take (i := 5) (d := some 94) (v := .tuple #[.agg #[.slice ta LV.length tc, .slice tb LM.length td], .bool R]) rfl (by kernel_rfl) (by kernel_rfl) (by kernel_rfl) (by kernel_rfl) (fun _ _ _ h => h) (Or.inl ⟨by rfl, by intro w hSw; go_simp⟩) hHeld ?_
            simp only [Act.put, List.setIfInBounds_toArray, List.set_cons_zero, List.set_cons_succ]
            refine Pq.take (i := 6) (d := some 100) (v := .agg #[.slice ta LV.length tc, .slice tb LM.length td]) rfl (by kernel_rfl) (by kernel_rfl) (by kernel_rfl) (by kernel_rfl) (fun _ _ _ h => h) (Or.inl ⟨by rfl, by intro w hSw; go_simp⟩) hHeld ?_
            simp only [Act.put, List.setIfInBounds_toArray, List.set_cons_zero, List.set_cons_succ]
            refine Pq.take (i := 7) (d := some 101) (v := .bool R) rfl (by kernel_rfl) (by kernel_rfl) (by kernel_rfl) (by kernel_rfl) (fun _ _ _ h => h) (Or.inl ⟨by rfl, by intro w hSw; go_simp⟩) hHeld ?_
            simp only [Act.put, List.setIfInBounds_toArray, List.set_cons_zero, List.set_cons_succ]
            refine wpAnyH_ready (rs := [8]) (by kernel_rfl) (by simp) (Ln.readyAlloc rfl (by kernel_rfl) (by kernel_rfl) 15 (by kernel_rfl) ⟨((Pl.below_alloc1 _ (.cells #[.slice none 0 0, .slice none 0 0] 63)).block _ zk0).trans k0, ((Pl.below_alloc1 _ (.cells #[.slice none 0 0, .slice none 0 0] 63)).block _ zk1).trans k1⟩ (fun hHeld => ?_) AllReadyH.nil)
            simp only [Act.put, List.setIfInBounds_toArray, List.set_cons_zero, List.set_cons_succ]
            have BX : Below w32.heap.size w32 (w32.alloc (.cells #[.slice none 0 0, .slice none 0 0] 63)) := Pl.below_alloc1 w32 (.cells #[.slice none 0 0, .slice none 0 0] 63)
            replace B := Rw.next B BX
            replace k0 := (BX.block _ zk0).trans k0
            replace zk0 := Nat.lt_of_lt_of_le zk0 BX.size
            replace k1 := (BX.block _ zk1).trans k1
            replace zk1 := Nat.lt_of_lt_of_le zk1 BX.size
            replace r0v := r0v.below BX
            replace r0m := r0m.below BX
            replace r1v := r1v.below BX
            replace r1m := r1m.below BX
            replace hsv := hsv.below BX
            replace hsm := hsm.below BX
            replace ks := (BX.block _ zks).trans ks
            replace zks := Nat.lt_of_lt_of_le zks BX.size
            replace kx0 := (BX.block _ zkx0).trans kx0
            replace zkx0 := Nat.lt_of_lt_of_le zkx0 BX.size
            replace kx1 := (BX.block _ zkx1).trans kx1
            replace zkx1 := Nat.lt_of_lt_of_le zkx1 BX.size
            replace kg := (BX.block _ zkg).trans kg
            replace zkg := Nat.lt_of_lt_of_le zkg BX.size
            replace hNv := hNv.below BX
            replace hNm := hNm.below BX
            replace BC := Rw.next BC BX
            replace htv := htv.below BX
            replace htm := htm.below BX
            have kX : (w32.alloc (.cells #[.slice none 0 0, .slice none 0 0] 63)).heap[w32.heap.size]? = some (.cells #[.slice none 0 0, .slice none 0 0] 63 (0, 0)) := Pl.at_new rfl
            have zkX : w32.heap.size < (w32.alloc (.cells #[.slice none 0 0, .slice none 0 0] 63)).heap.size := (by simp)
            have sykX := zkX
            clear BX
            have cX : w29.heap.size ≤ w32.heap.size := by omega
            have nXv : LV.length = 0 ∨ tv ≠ w32.heap.size := by omega
            have nXm : LM.length = 0 ∨ tm ≠ w32.heap.size := by omega
            have nk0 : w.heap.size ≠ w32.heap.size := by omega
            have nk1 : w.heap.size + 1 ≠ w32.heap.size := by omega
            refine wpAnyH_ready (rs := [9]) (by kernel_rfl) (by simp) (Ln.readyStore (X := w32.heap.size) (p := ta) (n := LV.length) (c := tc) (p' := tb) (n' := LM.length) (c' := td) rfl (by kernel_rfl) (.tmp 15) (.tmp 100) (by kernel_rfl) (by kernel_rfl) (by kernel_rfl) (by kernel_rfl) kX (fun wn hN hE => ⟨(hE.block _ nk0).trans k0, (hE.block _ nk1).trans k1⟩) (fun w33 hN hE hHeld => ?_) AllReadyH.nil)
            simp only [Act.put, List.setIfInBounds_toArray, List.set_cons_zero, List.set_cons_succ]
            refine Pq.take (i := 10) (d := some 16) (v := .bool R) rfl (by kernel_rfl) (by kernel_rfl) (by kernel_rfl) (by kernel_rfl) (fun _ _ _ h => h) (Or.inl ⟨by rfl, by intro w hSw; go_simp⟩) hHeld ?_
            simp only [Act.put, List.setIfInBounds_toArray, List.set_cons_zero, List.set_cons_succ]
            refine wpAnyH_done (by kernel_rfl) ?_ _
            go_wp2_with fail
            go_meet
            exact ⟨_, _, tv, _, _, tm, _, rfl, rfl, hN, Ln.wt_same hE htv nXv, Ln.wt_same hE htm nXm, Ln.same_below hE BC cX, by omega, by omega, tne, cX, nXv, nXm⟩
          · simp only [Act.put, List.setIfInBounds_toArray, List.set_cons_zero, List.set_cons_succ]
            have BX : Below w31.heap.size w31 (w31.alloc (.cells #[.slice none 0 0, .slice none 0 0] 63)) := Pl.below_alloc1 w31 (.cells #[.slice none 0 0, .slice none 0 0] 63)
            replace B := Rw.next B BX
            replace k0 := (BX.block _ zk0).trans k0
            replace zk0 := Nat.lt_of_lt_of_le zk0 BX.size
            replace k1 := (BX.block _ zk1).trans k1
            replace zk1 := Nat.lt_of_lt_of_le zk1 BX.size
            replace r0v := r0v.below BX
            replace r0m := r0m.below BX
            replace r1v := r1v.below BX
            replace r1m := r1m.below BX
            replace hsv := hsv.below BX
            replace hsm := hsm.below BX
            replace ks := (BX.block _ zks).trans ks
            replace zks := Nat.lt_of_lt_of_le zks BX.size
            replace kx0 := (BX.block _ zkx0).trans kx0
            replace zkx0 := Nat.lt_of_lt_of_le zkx0 BX.size
            replace kx1 := (BX.block _ zkx1).trans kx1
            replace zkx1 := Nat.lt_of_lt_of_le zkx1 BX.size
            replace kg := (BX.block _ zkg).trans kg
            replace zkg := Nat.lt_of_lt_of_le zkg BX.size
            replace hNv := hNv.below BX
            replace hNm := hNm.below BX
            replace BC := Rw.next BC BX
            replace hh0v := hh0v.below BX
            replace hh0m := hh0m.below BX
            replace hh1v := hh1v.below BX
            replace hh1m := hh1m.below BX
            have kX : (w31.alloc (.cells #[.slice none 0 0, .slice none 0 0] 63)).heap[w31.heap.size]? = some (.cells #[.slice none 0 0, .slice none 0 0] 63 (0, 0)) := Pl.at_new rfl
            have zkX : w31.heap.size < (w31.alloc (.cells #[.slice none 0 0, .slice none 0 0] 63)).heap.size := (by simp)
            have sykX := zkX
            clear BX
            refine wpAnyH_ready (rs := [4]) (by kernel_rfl) (by simp) (Rg.call2 rfl (by kernel_rfl) 45 (.tmp 96) (.tmp 98) 63 63 (by kernel_rfl) 99 (by kernel_rfl) (.agg #[.slice (some ⟨gav, 0, none⟩) V0.length V0.length, .slice (some ⟨gam, 0, none⟩) M0.length M0.length]) (.agg #[.slice (some ⟨gbv, 0, none⟩) V1.length V1.length, .slice (some ⟨gbm, 0, none⟩) M1.length M1.length]) (by kernel_rfl) (by kernel_rfl) (fun _ => rfl) (HI.out _ _ _ _ _ _ _ _ _ _ _ _ _ _ _ _ _ hh0v.rd hh0m.rd hh1v.rd hh1m.rd) ?_ AllReadyH.nil)
            rintro e w34 ⟨ta, tv, tc, tb, tm, td, rfl, htv, htm, tlv, tlm, tne, hb⟩
            refine ⟨_, rfl, ⟨(hb.block _ zk0).trans k0, (hb.block _ zk1).trans k1⟩, fun hHeld => ?_⟩
            simp only [Act.put, List.setIfInBounds_toArray, List.set_cons_zero, List.set_cons_succ]
            have sz19 := hb.size
            replace B := Rw.next B hb
            replace k0 := (hb.block _ zk0).trans k0
            replace zk0 := Nat.lt_of_lt_of_le zk0 hb.size
            replace k1 := (hb.block _ zk1).trans k1
            replace zk1 := Nat.lt_of_lt_of_le zk1 hb.size
            replace r0v := r0v.below hb
            replace r0m := r0m.below hb
            replace r1v := r1v.below hb
            replace r1m := r1m.below hb
            replace hsv := hsv.below hb
            replace hsm := hsm.below hb
            replace ks := (hb.block _ zks).trans ks
            replace zks := Nat.lt_of_lt_of_le zks hb.size
            replace kx0 := (hb.block _ zkx0).trans kx0
            replace zkx0 := Nat.lt_of_lt_of_le zkx0 hb.size
            replace kx1 := (hb.block _ zkx1).trans kx1
            replace zkx1 := Nat.lt_of_lt_of_le zkx1 hb.size
            replace kg := (hb.block _ zkg).trans kg
            replace zkg := Nat.lt_of_lt_of_le zkg hb.size
            replace hNv := hNv.below hb
            replace hNm := hNm.below hb
            replace BC := Rw.next BC hb
            replace hh0v := hh0v.below hb
            replace hh0m := hh0m.below hb
            replace hh1v := hh1v.below hb
            replace hh1m := hh1m.below hb
            replace kX := (hb.block _ zkX).trans kX
            replace zkX := Nat.lt_of_lt_of_le zkX hb.size
            clear hb
            have lttv := Hr.wt_lt htv
            have lttm := Hr.wt_lt htm
            refine Pq.take (i := 5) (d := some 94) (v := .tuple #[.agg #[.slice ta LV.length tc, .slice tb LM.length td], .bool R]) rfl (by kernel_rfl) (by kernel_rfl) (by kernel_rfl) (by kernel_rfl) (fun _ _ _ h => h) (Or.inl ⟨by rfl, by intro w hSw; go_simp⟩) hHeld ?_
            simp only [Act.put, List.setIfInBounds_toArray, List.set_cons_zero, List.set_cons_succ]
            refine Pq.take (i := 6) (d := some 100) (v := .agg #[.slice ta LV.length tc, .slice tb LM.length td]) rfl (by kernel_rfl) (by kernel_rfl) (by kernel_rfl) (by kernel_rfl) (fun _ _ _ h => h) (Or.inl ⟨by rfl, by intro w hSw; go_simp⟩) hHeld ?_
            simp only [Act.put, List.setIfInBounds_toArray, List.set_cons_zero, List.set_cons_succ]
            refine Pq.take (i := 7) (d := some 101) (v := .bool R) rfl (by kernel_rfl) (by kernel_rfl) (by kernel_rfl) (by kernel_rfl) (fun _ _ _ h => h) (Or.inl ⟨by rfl, by intro w hSw; go_simp⟩) hHeld ?_
            simp only [Act.put, List.setIfInBounds_toArray, List.set_cons_zero, List.set_cons_succ]
            have cX : w29.heap.size ≤ w31.heap.size := by omega
            have nXv : LV.length = 0 ∨ tv ≠ w31.heap.size := by omega
            have nXm : LM.length = 0 ∨ tm ≠ w31.heap.size := by omega
            have nk0 : w.heap.size ≠ w31.heap.size := by omega
            have nk1 : w.heap.size + 1 ≠ w31.heap.size := by omega
            refine wpAnyH_ready (rs := [9]) (by kernel_rfl) (by simp) (Ln.readyStore (X := w31.heap.size) (p := ta) (n := LV.length) (c := tc) (p' := tb) (n' := LM.length) (c' := td) rfl (by kernel_rfl) (.tmp 15) (.tmp 100) (by kernel_rfl) (by kernel_rfl) (by kernel_rfl) (by kernel_rfl) kX (fun wn hN hE => ⟨(hE.block _ nk0).trans k0, (hE.block _ nk1).trans k1⟩) (fun w35 hN hE hHeld => ?_) AllReadyH.nil)
            simp only [Act.put, List.setIfInBounds_toArray, List.set_cons_zero, List.set_cons_succ]
            refine Pq.take (i := 10) (d := some 16) (v := .bool R) rfl (by kernel_rfl) (by kernel_rfl) (by kernel_rfl) (by kernel_rfl) (fun _ _ _ h => h) (Or.inl ⟨by rfl, by intro w hSw; go_simp⟩) hHeld ?_
            simp only [Act.put, List.setIfInBounds_toArray, List.set_cons_zero, List.set_cons_succ]
            refine wpAnyH_done (by kernel_rfl) ?_ _
            go_wp2_with fail
            go_meet
            exact ⟨_, _, tv, _, _, tm, _, rfl, rfl, hN, Ln.wt_same hE htv nXv, Ln.wt_same hE htm nXm, Ln.same_below hE BC cX, by omega, by omega, tne, cX, nXv, nXm⟩
        · simp only [Act.put, List.setIfInBounds_toArray, List.set_cons_zero, List.set_cons_succ]
          have BX : Below w30.heap.size w30 (w30.alloc (.cells #[.slice none 0 0, .slice none 0 0] 63)) := Pl.below_alloc1 w30 (.cells #[.slice none 0 0, .slice none 0 0] 63)
          replace B := Rw.next B BX
          replace k0 := (BX.block _ zk0).trans k0
          replace zk0 := Nat.lt_of_lt_of_le zk0 BX.size
          replace k1 := (BX.block _ zk1).trans k1
          replace zk1 := Nat.lt_of_lt_of_le zk1 BX.size
          replace r0v := r0v.below BX
          replace r0m := r0m.below BX
          replace r1v := r1v.below BX
          replace r1m := r1m.below BX
          replace hsv := hsv.below BX
          replace hsm := hsm.below BX
          replace ks := (BX.block _ zks).trans ks
          replace zks := Nat.lt_of_lt_of_le zks BX.size
          replace kx0 := (BX.block _ zkx0).trans kx0
          replace zkx0 := Nat.lt_of_lt_of_le zkx0 BX.size
          replace kx1 := (BX.block _ zkx1).trans kx1
          replace zkx1 := Nat.lt_of_lt_of_le zkx1 BX.size
          replace kg := (BX.block _ zkg).trans kg
          replace zkg := Nat.lt_of_lt_of_le zkg BX.size
          replace hNv := hNv.below BX
          replace hNm := hNm.below BX
          replace BC := Rw.next BC BX
          replace hh0v := hh0v.below BX
          replace hh0m := hh0m.below BX
          have kX : (w30.alloc (.cells #[.slice none 0 0, .slice none 0 0] 63)).heap[w30.heap.size]? = some (.cells #[.slice none 0 0, .slice none 0 0] 63 (0, 0)) := Pl.at_new rfl
          have zkX : w30.heap.size < (w30.alloc (.cells #[.slice none 0 0, .slice none 0 0] 63)).heap.size := (by simp)
          have sykX := zkX
          clear BX
          refine wpAnyH_ready (rs := [3]) (by kernel_rfl) (by simp) (Rg.call1 rfl (by kernel_rfl) 44 (.tmp 97) 61 (by kernel_rfl) 98 (by kernel_rfl) (.agg #[.slice a1v V1.length c1v, .slice a1m M1.length c1m]) (by kernel_rfl) (fun _ => rfl) (Lm.toMatch_any _ _ _ _ _ _ _ _ _ _ _ r1v r1m) ?_ AllReadyH.nil)
          rintro e w36 ⟨gbv, gbm, rfl, hb, gblv, gblm, gbne, hh1v, hh1m⟩
          refine ⟨_, rfl, ⟨(hb.block _ zk0).trans k0, (hb.block _ zk1).trans k1⟩, fun hHeld => ?_⟩
          simp only [Act.put, List.setIfInBounds_toArray, List.set_cons_zero, List.set_cons_succ]
          have sz18 := hb.size
          replace B := Rw.next B hb
          replace k0 := (hb.block _ zk0).trans k0
          replace zk0 := Nat.lt_of_lt_of_le zk0 hb.size
          replace k1 := (hb.block _ zk1).trans k1
          replace zk1 := Nat.lt_of_lt_of_le zk1 hb.size
          replace r0v := r0v.below hb
          replace r0m := r0m.below hb
          replace r1v := r1v.below hb
          replace r1m := r1m.below hb
          replace hsv := hsv.below hb
          replace hsm := hsm.below hb
          replace ks := (hb.block _ zks).trans ks
          replace zks := Nat.lt_of_lt_of_le zks hb.size
          replace kx0 := (hb.block _ zkx0).trans kx0
          replace zkx0 := Nat.lt_of_lt_of_le zkx0 hb.size
          replace kx1 := (hb.block _ zkx1).trans kx1
          replace zkx1 := Nat.lt_of_lt_of_le zkx1 hb.size
          replace kg := (hb.block _ zkg).trans kg
          replace zkg := Nat.lt_of_lt_of_le zkg hb.size
          replace hNv := hNv.below hb
          replace hNm := hNm.below hb
          replace BC := Rw.next BC hb
          replace hh0v := hh0v.below hb
          replace hh0m := hh0m.below hb
          replace kX := (hb.block _ zkX).trans kX
          replace zkX := Nat.lt_of_lt_of_le zkX hb.size
          clear hb
          refine wpAnyH_ready (rs := [4]) (by kernel_rfl) (by simp) (Rg.call2 rfl (by kernel_rfl) 45 (.tmp 96) (.tmp 98) 63 63 (by kernel_rfl) 99 (by kernel_rfl) (.agg #[.slice (some ⟨gav, 0, none⟩) V0.length V0.length, .slice (some ⟨gam, 0, none⟩) M0.length M0.length]) (.agg #[.slice (some ⟨gbv, 0, none⟩) V1.length V1.length, .slice (some ⟨gbm, 0, none⟩) M1.length M1.length]) (by kernel_rfl) (by kernel_rfl) (fun _ => rfl) (HI.out _ _ _ _ _ _ _ _ _ _ _ _ _ _ _ _ _ hh0v.rd hh0m.rd hh1v.rd hh1m.rd) ?_ AllReadyH.nil)
          rintro e w37 ⟨ta, tv, tc, tb, tm, td, rfl, htv, htm, tlv, tlm, tne, hb⟩
          refine ⟨_, rfl, ⟨(hb.block _ zk0).trans k0, (hb.block _ zk1).trans k1⟩, fun hHeld => ?_⟩
          simp only [Act.put, List.setIfInBounds_toArray, List.set_cons_zero, List.set_cons_succ]
          have sz19 := hb.size
          replace B := Rw.next B hb
          replace k0 := (hb.block _ zk0).trans k0
          replace zk0 := Nat.lt_of_lt_of_le zk0 hb.size
          replace k1 := (hb.block _ zk1).trans k1
          replace zk1 := Nat.lt_of_lt_of_le zk1 hb.size
          replace r0v := r0v.below hb
          replace r0m := r0m.below hb
          replace r1v := r1v.below hb
          replace r1m := r1m.below hb
          replace hsv := hsv.below hb
          replace hsm := hsm.below hb
          replace ks := (hb.block _ zks).trans ks
          replace zks := Nat.lt_of_lt_of_le zks hb.size
          replace kx0 := (hb.block _ zkx0).trans kx0
          replace zkx0 := Nat.lt_of_lt_of_le zkx0 hb.size
          replace kx1 := (hb.block _ zkx1).trans kx1
          replace zkx1 := Nat.lt_of_lt_of_le zkx1 hb.size
          replace kg := (hb.block _ zkg).trans kg
          replace zkg := Nat.lt_of_lt_of_le zkg hb.size
          replace hNv := hNv.below hb
          replace hNm := hNm.below hb
          replace BC := Rw.next BC hb
          replace hh0v := hh0v.below hb
          replace hh0m := hh0m.below hb
          replace kX := (hb.block _ zkX).trans kX
          replace zkX := Nat.lt_of_lt_of_le zkX hb.size
          replace hh1v := hh1v.below hb
          replace hh1m := hh1m.below hb
          clear hb
          have lttv := Hr.wt_lt htv
          have lttm := Hr.wt_lt htm
          refine Pq.take (i := 5) (d := some 94) (v := .tuple #[.agg #[.slice ta LV.length tc, .slice tb LM.length td], .bool R]) rfl (by kernel_rfl) (by kernel_rfl) (by kernel_rfl) (by kernel_rfl) (fun _ _ _ h => h) (Or.inl ⟨by rfl, by intro w hSw; go_simp⟩) hHeld ?_
          simp only [Act.put, List.setIfInBounds_toArray, List.set_cons_zero, List.set_cons_succ]
          refine Pq.take (i := 6) (d := some 100) (v := .agg #[.slice ta LV.length tc, .slice tb LM.length td]) rfl (by kernel_rfl) (by kernel_rfl) (by kernel_rfl) (by kernel_rfl) (fun _ _ _ h => h) (Or.inl ⟨by rfl, by intro w hSw; go_simp⟩) hHeld ?_
          simp only [Act.put, List.setIfInBounds_toArray, List.set_cons_zero, List.set_cons_succ]
          refine Pq.take (i := 7) (d := some 101) (v := .bool R) rfl (by kernel_rfl) (by kernel_rfl) (by kernel_rfl) (by kernel_rfl) (fun _ _ _ h => h) (Or.inl ⟨by rfl, by intro w hSw; go_simp⟩) hHeld ?_
          simp only [Act.put, List.setIfInBounds_toArray, List.set_cons_zero, List.set_cons_succ]
          have cX : w29.heap.size ≤ w30.heap.size := by omega
          have nXv : LV.length = 0 ∨ tv ≠ w30.heap.size := by omega
          have nXm : LM.length = 0 ∨ tm ≠ w30.heap.size := by omega
          have nk0 : w.heap.size ≠ w30.heap.size := by omega
          have nk1 : w.heap.size + 1 ≠ w30.heap.size := by omega
          refine wpAnyH_ready (rs := [9]) (by kernel_rfl) (by simp) (Ln.readyStore (X := w30.heap.size) (p := ta) (n := LV.length) (c := tc) (p' := tb) (n' := LM.length) (c' := td) rfl (by kernel_rfl) (.tmp 15) (.tmp 100) (by kernel_rfl) (by kernel_rfl) (by kernel_rfl) (by kernel_rfl) kX (fun wn hN hE => ⟨(hE.block _ nk0).trans k0, (hE.block _ nk1).trans k1⟩) (fun w38 hN hE hHeld => ?_) AllReadyH.nil)
          simp only [Act.put, List.setIfInBounds_toArray, List.set_cons_zero, List.set_cons_succ]
          refine Pq.take (i := 10) (d := some 16) (v := .bool R) rfl (by kernel_rfl) (by kernel_rfl) (by kernel_rfl) (by kernel_rfl) (fun _ _ _ h => h) (Or.inl ⟨by rfl, by intro w hSw; go_simp⟩) hHeld ?_
          simp only [Act.put, List.setIfInBounds_toArray, List.set_cons_zero, List.set_cons_succ]
          refine wpAnyH_done (by kernel_rfl) ?_ _
          go_wp2_with fail
          go_meet
          exact ⟨_, _, tv, _, _, tm, _, rfl, rfl, hN, Ln.wt_same hE htv nXv, Ln.wt_same hE htm nXm, Ln.same_below hE BC cX, by omega, by omega, tne, cX, nXv, nXm⟩
      · simp only [Act.put, List.setIfInBounds_toArray, List.set_cons_zero, List.set_cons_succ]
        have BX : Below w29.heap.size w29.drew (w29.drew.alloc (.cells #[.slice none 0 0, .slice none 0 0] 63)) := Pl.below_alloc1 w29.drew (.cells #[.slice none 0 0, .slice none 0 0] 63)
        replace B := Rw.next B BX
        replace k0 := (BX.block _ zk0).trans k0
        replace zk0 := Nat.lt_of_lt_of_le zk0 BX.size
        replace k1 := (BX.block _ zk1).trans k1
        replace zk1 := Nat.lt_of_lt_of_le zk1 BX.size
        replace r0v := r0v.below BX
        replace r0m := r0m.below BX
        replace r1v := r1v.below BX
        replace r1m := r1m.below BX
        replace hsv := hsv.below BX
        replace hsm := hsm.below BX
        replace ks := (BX.block _ zks).trans ks
        replace zks := Nat.lt_of_lt_of_le zks BX.size
        replace kx0 := (BX.block _ zkx0).trans kx0
        replace zkx0 := Nat.lt_of_lt_of_le zkx0 BX.size
        replace kx1 := (BX.block _ zkx1).trans kx1
        replace zkx1 := Nat.lt_of_lt_of_le zkx1 BX.size
        replace kg := (BX.block _ zkg).trans kg
        replace zkg := Nat.lt_of_lt_of_le zkg BX.size
        replace hNv := hNv.below BX
        replace hNm := hNm.below BX
        replace BC := Rw.next BC BX
        have kX : (w29.drew.alloc (.cells #[.slice none 0 0, .slice none 0 0] 63)).heap[w29.heap.size]? = some (.cells #[.slice none 0 0, .slice none 0 0] 63 (0, 0)) := Pl.at_new rfl
        have zkX : w29.heap.size < (w29.drew.alloc (.cells #[.slice none 0 0, .slice none 0 0] 63)).heap.size := (by simp)
        have sykX := zkX
        clear BX
        refine wpAnyH_ready (rs := [1]) (by kernel_rfl) (by simp) (Rg.call1 rfl (by kernel_rfl) 44 (.tmp 95) 61 (by kernel_rfl) 96 (by kernel_rfl) (.agg #[.slice a0v V0.length c0v, .slice a0m M0.length c0m]) (by kernel_rfl) (fun _ => rfl) (Lm.toMatch_any _ _ _ _ _ _ _ _ _ _ _ r0v r0m) ?_ AllReadyH.nil)
        rintro e w39 ⟨gav, gam, rfl, hb, galv, galm, gane, hh0v, hh0m⟩
        refine ⟨_, rfl, ⟨(hb.block _ zk0).trans k0, (hb.block _ zk1).trans k1⟩, fun hHeld => ?_⟩
        simp only [Act.put, List.setIfInBounds_toArray, List.set_cons_zero, List.set_cons_succ]
        have sz17 := hb.size
        replace B := Rw.next B hb
        replace k0 := (hb.block _ zk0).trans k0
        replace zk0 := Nat.lt_of_lt_of_le zk0 hb.size
        replace k1 := (hb.block _ zk1).trans k1
        replace zk1 := Nat.lt_of_lt_of_le zk1 hb.size
        replace r0v := r0v.below hb
        replace r0m := r0m.below hb
        replace r1v := r1v.below hb
        replace r1m := r1m.below hb
        replace hsv := hsv.below hb
        replace hsm := hsm.below hb
        replace ks := (hb.block _ zks).trans ks
        replace zks := Nat.lt_of_lt_of_le zks hb.size
        replace kx0 := (hb.block _ zkx0).trans kx0
        replace zkx0 := Nat.lt_of_lt_of_le zkx0 hb.size
        replace kx1 := (hb.block _ zkx1).trans kx1
        replace zkx1 := Nat.lt_of_lt_of_le zkx1 hb.size
        replace kg := (hb.block _ zkg).trans kg
        replace zkg := Nat.lt_of_lt_of_le zkg hb.size
        replace hNv := hNv.below hb
        replace hNm := hNm.below hb
        replace BC := Rw.next BC hb
        replace kX := (hb.block _ zkX).trans kX
        replace zkX := Nat.lt_of_lt_of_le zkX hb.size
        clear hb
        refine wpAnyH_ready (rs := [3]) (by kernel_rfl) (by simp) (Rg.call1 rfl (by kernel_rfl) 44 (.tmp 97) 61 (by kernel_rfl) 98 (by kernel_rfl) (.agg #[.slice a1v V1.length c1v, .slice a1m M1.length c1m]) (by kernel_rfl) (fun _ => rfl) (Lm.toMatch_any _ _ _ _ _ _ _ _ _ _ _ r1v r1m) ?_ AllReadyH.nil)
        rintro e w40 ⟨gbv, gbm, rfl, hb, gblv, gblm, gbne, hh1v, hh1m⟩
        refine ⟨_, rfl, ⟨(hb.block _ zk0).trans k0, (hb.block _ zk1).trans k1⟩, fun hHeld => ?_⟩
        simp only [Act.put, List.setIfInBounds_toArray, List.set_cons_zero, List.set_cons_succ]
        have sz18 := hb.size
        replace B := Rw.next B hb
        replace k0 := (hb.block _ zk0).trans k0
        replace zk0 := Nat.lt_of_lt_of_le zk0 hb.size
        replace k1 := (hb.block _ zk1).trans k1
        replace zk1 := Nat.lt_of_lt_of_le zk1 hb.size
        replace r0v := r0v.below hb
        replace r0m := r0m.below hb
        replace r1v := r1v.below hb
        replace r1m := r1m.below hb
        replace hsv := hsv.below hb
        replace hsm := hsm.below hb
        replace ks := (hb.block _ zks).trans ks
        replace zks := Nat.lt_of_lt_of_le zks hb.size
        replace kx0 := (hb.block _ zkx0).trans kx0
        replace zkx0 := Nat.lt_of_lt_of_le zkx0 hb.size
        replace kx1 := (hb.block _ zkx1).trans kx1
        replace zkx1 := Nat.lt_of_lt_of_le zkx1 hb.size
        replace kg := (hb.block _ zkg).trans kg
        replace zkg := Nat.lt_of_lt_of_le zkg hb.size
        replace hNv := hNv.below hb
        replace hNm := hNm.below hb
        replace BC := Rw.next BC hb
        replace kX := (hb.block _ zkX).trans kX
        replace zkX := Nat.lt_of_lt_of_le zkX hb.size
        replace hh0v := hh0v.below hb
        replace hh0m := hh0m.below hb
        clear hb
        refine wpAnyH_ready (rs := [4]) (by kernel_rfl) (by simp) (Rg.call2 rfl (by kernel_rfl) 45 (.tmp 96) (.tmp 98) 63 63 (by kernel_rfl) 99 (by kernel_rfl) (.agg #[.slice (some ⟨gav, 0, none⟩) V0.length V0.length, .slice (some ⟨gam, 0, none⟩) M0.length M0.length]) (.agg #[.slice (some ⟨gbv, 0, none⟩) V1.length V1.length, .slice (some ⟨gbm, 0, none⟩) M1.length M1.length]) (by kernel_rfl) (by kernel_rfl) (fun _ => rfl) (HI.out _ _ _ _ _ _ _ _ _ _ _ _ _ _ _ _ _ hh0v.rd hh0m.rd hh1v.rd hh1m.rd) ?_ AllReadyH.nil)
        rintro e w41 ⟨ta, tv, tc, tb, tm, td, rfl, htv, htm, tlv, tlm, tne, hb⟩
        refine ⟨_, rfl, ⟨(hb.block _ zk0).trans k0, (hb.block _ zk1).trans k1⟩, fun hHeld => ?_⟩
        simp only [Act.put, List.setIfInBounds_toArray, List.set_cons_zero, List.set_cons_succ]
        have sz19 := hb.size
        replace B := Rw.next B hb
        replace k0 := (hb.block _ zk0).trans k0
        replace zk0 := Nat.lt_of_lt_of_le zk0 hb.size
        replace k1 := (hb.block _ zk1).trans k1
        replace zk1 := Nat.lt_of_lt_of_le zk1 hb.size
        replace r0v := r0v.below hb
        replace r0m := r0m.below hb
        replace r1v := r1v.below hb
        replace r1m := r1m.below hb
        replace hsv := hsv.below hb
        replace hsm := hsm.below hb
        replace ks := (hb.block _ zks).trans ks
        replace zks := Nat.lt_of_lt_of_le zks hb.size
        replace kx0 := (hb.block _ zkx0).trans kx0
        replace zkx0 := Nat.lt_of_lt_of_le zkx0 hb.size
        replace kx1 := (hb.block _ zkx1).trans kx1
        replace zkx1 := Nat.lt_of_lt_of_le zkx1 hb.size
        replace kg := (hb.block _ zkg).trans kg
        replace zkg := Nat.lt_of_lt_of_le zkg hb.size
        replace hNv := hNv.below hb
        replace hNm := hNm.below hb
        replace BC := Rw.next BC hb
        replace kX := (hb.block _ zkX).trans kX
        replace zkX := Nat.lt_of_lt_of_le zkX hb.size
        replace hh0v := hh0v.below hb
        replace hh0m := hh0m.below hb
        replace hh1v := hh1v.below hb
        replace hh1m := hh1m.below hb
        clear hb
        have lttv := Hr.wt_lt htv
        have lttm := Hr.wt_lt htm
        refine Pq.take (i := 5) (d := some 94) (v := .tuple #[.agg #[.slice ta LV.length tc, .slice tb LM.length td], .bool R]) rfl (by kernel_rfl) (by kernel_rfl) (by kernel_rfl) (by kernel_rfl) (fun _ _ _ h => h) (Or.inl ⟨by rfl, by intro w hSw; go_simp⟩) hHeld ?_
        simp only [Act.put, List.setIfInBounds_toArray, List.set_cons_zero, List.set_cons_succ]
        refine Pq.take (i := 6) (d := some 100) (v := .agg #[.slice ta LV.length tc, .slice tb LM.length td]) rfl (by kernel_rfl) (by kernel_rfl) (by kernel_rfl) (by kernel_rfl) (fun _ _ _ h => h) (Or.inl ⟨by rfl, by intro w hSw; go_simp⟩) hHeld ?_
        simp only [Act.put, List.setIfInBounds_toArray, List.set_cons_zero, List.set_cons_succ]
        refine Pq.take (i := 7) (d := some 101) (v := .bool R) rfl (by kernel_rfl) (by kernel_rfl) (by kernel_rfl) (by kernel_rfl) (fun _ _ _ h => h) (Or.inl ⟨by rfl, by intro w hSw; go_simp⟩) hHeld ?_
        simp only [Act.put, List.setIfInBounds_toArray, List.set_cons_zero, List.set_cons_succ]
        have cX : w29.heap.size ≤ w29.heap.size := by omega
        have nXv : LV.length = 0 ∨ tv ≠ w29.heap.size := by omega
        have nXm : LM.length = 0 ∨ tm ≠ w29.heap.size := by omega
        have nk0 : w.heap.size ≠ w29.heap.size := by omega
        have nk1 : w.heap.size + 1 ≠ w29.heap.size := by omega
        refine wpAnyH_ready (rs := [9]) (by kernel_rfl) (by simp) (Ln.readyStore (X := w29.heap.size) (p := ta) (n := LV.length) (c := tc) (p' := tb) (n' := LM.length) (c' := td) rfl (by kernel_rfl) (.tmp 15) (.tmp 100) (by kernel_rfl) (by kernel_rfl) (by kernel_rfl) (by kernel_rfl) kX (fun wn hN hE => ⟨(hE.block _ nk0).trans k0, (hE.block _ nk1).trans k1⟩) (fun w42 hN hE hHeld => ?_) AllReadyH.nil)
        simp only [Act.put, List.setIfInBounds_toArray, List.set_cons_zero, List.set_cons_succ]
        refine Pq.take (i := 10) (d := some 16) (v := .bool R) rfl (by kernel_rfl) (by kernel_rfl) (by kernel_rfl) (by kernel_rfl) (fun _ _ _ h => h) (Or.inl ⟨by rfl, by intro w hSw; go_simp⟩) hHeld ?_
        simp only [Act.put, List.setIfInBounds_toArray, List.set_cons_zero, List.set_cons_succ]
        refine wpAnyH_done (by kernel_rfl) ?_ _
        go_wp2_with fail
        go_meet
        exact ⟨_, _, tv, _, _, tm, _, rfl, rfl, hN, Ln.wt_same hE htv nXv, Ln.wt_same hE htm nXm, Ln.same_below hE BC cX, by omega, by omega, tne, cX, nXv, nXm⟩
    case rest =>
      obtain ⟨Xt, ta, tv, tc, tb, tm, td, rfl, rfl, kt, htv, htm, hb, tlv, tlm, tne, Xtlo, Xtv, Xtm⟩ := hcut
      have sz17 := hb.size
      replace B := Rw.next B hb
      replace k0 := (hb.block _ zk0).trans k0
      replace zk0 := Nat.lt_of_lt_of_le zk0 hb.size
      replace k1 := (hb.block _ zk1).trans k1
      replace zk1 := Nat.lt_of_lt_of_le zk1 hb.size
      replace r0v := r0v.below hb
      replace r0m := r0m.below hb
      replace r1v := r1v.below hb
      replace r1m := r1m.below hb
      replace hsv := hsv.below hb
      replace hsm := hsm.below hb
      replace ks := (hb.block _ zks).trans ks
      replace zks := Nat.lt_of_lt_of_le zks hb.size
      replace kx0 := (hb.block _ zkx0).trans kx0
      replace zkx0 := Nat.lt_of_lt_of_le zkx0 hb.size
      replace kx1 := (hb.block _ zkx1).trans kx1
      replace zkx1 := Nat.lt_of_lt_of_le zkx1 hb.size
      replace kg := (hb.block _ zkg).trans kg
      replace zkg := Nat.lt_of_lt_of_le zkg hb.size
      replace hNv := hNv.below hb
      replace hNm := hNm.below hb
      clear hb
      have lttv := Hr.wt_lt htv
      have lttm := Hr.wt_lt htm
      have zkt := (Array.getElem?_eq_some_iff.1 kt).1
      have sykt := zkt
      obtain ⟨c0v, c0m⟩ := Pm.two k0
      obtain ⟨c1v, c1m⟩ := Pm.two k1
      obtain ⟨csv, csm⟩ := Pm.two ks
      obtain ⟨x0v, x0m⟩ := Pm.two kx0
      obtain ⟨x1v, x1m⟩ := Pm.two kx1
      obtain ⟨cgv, cgm⟩ := Pm.two kg
      obtain ⟨ctv, ctm⟩ := Pm.two kt
      have tk12 : True := trivial
      go_wp2_with (go_at_call 46; clear tk12; refine (Lm.eqMatch_same _ _ _ _ _ _ _ _ _ _ _ _ _ _ _ _ LV LM _ htv.rd htm.rd hsv.rd hsm.rd).mono ?_; rintro e w44 ⟨rfl, hb⟩; have sz18 := hb.size; clear c0v c0m c1v c1m csv csm x0v x0m x1v x1m cgv cgm ctv ctm; replace B := Rw.next B hb; replace k0 := (hb.block _ zk0).trans k0; replace zk0 := Nat.lt_of_lt_of_le zk0 hb.size; replace k1 := (hb.block _ zk1).trans k1; replace zk1 := Nat.lt_of_lt_of_le zk1 hb.size; replace r0v := r0v.below hb; replace r0m := r0m.below hb; replace r1v := r1v.below hb; replace r1m := r1m.below hb; replace hsv := hsv.below hb; replace hsm := hsm.below hb; replace ks := (hb.block _ zks).trans ks; replace zks := Nat.lt_of_lt_of_le zks hb.size; replace kx0 := (hb.block _ zkx0).trans kx0; replace zkx0 := Nat.lt_of_lt_of_le zkx0 hb.size; replace kx1 := (hb.block _ zkx1).trans kx1; replace zkx1 := Nat.lt_of_lt_of_le zkx1 hb.size; replace kg := (hb.block _ zkg).trans kg; replace zkg := Nat.lt_of_lt_of_le zkg hb.size; replace hNv := hNv.below hb; replace hNm := hNm.below hb; replace htv := htv.below hb; replace htm := htm.below hb; replace kt := (hb.block _ zkt).trans kt; replace zkt := Nat.lt_of_lt_of_le zkt hb.size; clear hb; obtain ⟨c0v, c0m⟩ := Pm.two k0; obtain ⟨c1v, c1m⟩ := Pm.two k1; obtain ⟨csv, csm⟩ := Pm.two ks; obtain ⟨x0v, x0m⟩ := Pm.two kx0; obtain ⟨x1v, x1m⟩ := Pm.two kx1; obtain ⟨cgv, cgm⟩ := Pm.two kg; obtain ⟨ctv, ctm⟩ := Pm.two kt)
      have tk13 : True := trivial
      go_wp2_with (go_at_call 48; clear tk13; refine (Lm.heldM_any 1 (by omega) (by omega) _ _ _ _ _ _ _ _ _ hNv hNm).mono ?_; rintro e w45 ⟨rfl, hb⟩; have sz19 := hb.size; clear c0v c0m c1v c1m csv csm x0v x0m x1v x1m cgv cgm ctv ctm; replace B := Rw.next B hb; replace k0 := (hb.block _ zk0).trans k0; replace zk0 := Nat.lt_of_lt_of_le zk0 hb.size; replace k1 := (hb.block _ zk1).trans k1; replace zk1 := Nat.lt_of_lt_of_le zk1 hb.size; replace r0v := r0v.below hb; replace r0m := r0m.below hb; replace r1v := r1v.below hb; replace r1m := r1m.below hb; replace hsv := hsv.below hb; replace hsm := hsm.below hb; replace ks := (hb.block _ zks).trans ks; replace zks := Nat.lt_of_lt_of_le zks hb.size; replace kx0 := (hb.block _ zkx0).trans kx0; replace zkx0 := Nat.lt_of_lt_of_le zkx0 hb.size; replace kx1 := (hb.block _ zkx1).trans kx1; replace zkx1 := Nat.lt_of_lt_of_le zkx1 hb.size; replace kg := (hb.block _ zkg).trans kg; replace zkg := Nat.lt_of_lt_of_le zkg hb.size; replace hNv := hNv.below hb; replace hNm := hNm.below hb; replace htv := htv.below hb; replace htm := htm.below hb; replace kt := (hb.block _ zkt).trans kt; replace zkt := Nat.lt_of_lt_of_le zkt hb.size; clear hb; obtain ⟨c0v, c0m⟩ := Pm.two k0; obtain ⟨c1v, c1m⟩ := Pm.two k1; obtain ⟨csv, csm⟩ := Pm.two ks; obtain ⟨x0v, x0m⟩ := Pm.two kx0; obtain ⟨x1v, x1m⟩ := Pm.two kx1; obtain ⟨cgv, cgm⟩ := Pm.two kg; obtain ⟨ctv, ctm⟩ := Pm.two kt)
      go_ret
      exact ⟨rfl, B⟩

set_option maxRecDepth 100000 in
theorem lifted (os : Os) (started : os.Started) (H : Type) (enc : TypeId × Value → H) :
    ReturnsInHanded {} Try.checked os 10 .any (Rows.fnExactMeetOfSpec.pre6 enc Try.prog Try.f10 Rows.fnExactMeetOfRow.domain false) (Rows.fnExactMeetOfSpec.post enc Try.prog Try.f10 false true false false) := by
  refine returnsInHanded_of_change (C := Try.checked) own started (by kernel_rfl) Try.func10
    (ChangeSpec.witness6 (enc := enc) (C := Try.checked) false ⟨#[], #[.agg #[.slice none 0 0, .slice none 0 0], .agg #[.slice none 0 0, .slice none 0 0]], []⟩ 8 (by kernel_rfl) (by kernel_rfl) (by kernel_rfl) (by kernel_rfl)) ?_
  intro W base args ds gs before hval0 hW hcnd _
  have hval : ∀ (j : Nat) t v, Try.f10.params[j]? = some t → args[j]? = some v → Value.okWide Try.prog W .any base t v := hval0
  have hW' := hW
  obtain ⟨p, q, hA0, hV, rfl, hfz, hnd⟩ := hW
  have hA : DataW.TrodAll enc Try.prog W 0 (fun _ => true) true Try.f10.params.toList args.toList ds p := hA0
  rw [Try.params10] at hA hval
  obtain ⟨v0, vs0, d0, ds0, p0, q0, hargs, rfl, rfl, h0, r0⟩ := trodAll_cons hA
  obtain ⟨v1, vs1, d1, ds1, p1, q1, rfl, rfl, rfl, h1, r1⟩ := trodAll_cons r0
  obtain ⟨rfl, rfl, rfl⟩ := trodAll_nil r1
  obtain rfl : args = #[v0, v1] := by cases args; simp_all
  obtain ⟨rfl, rfl⟩ := trodVars_none hV
  have k0 := h0
  have lt0 : ∀ x ∈ p0, x.block < W.heap.size := by obtain ⟨m, hm⟩ := k0; exact DataW.trod_lt m _ _ _ hm
  have k1 := h1
  have lt1 : ∀ x ∈ p1, x.block < W.heap.size := by obtain ⟨m, hm⟩ := k1; exact DataW.trod_lt m _ _ _ hm
  obtain ⟨a0v, n0v, c0v, z0v, a0m, n0m, c0m, z0m, rfl, w0v, w0m⟩ := Lm.open_match (hval 0 61 v0 rfl rfl) h0
  obtain ⟨a1v, n1v, c1v, z1v, a1m, n1m, c1m, z1m, rfl, w1v, w1m⟩ := Lm.open_match (hval 1 61 v1 rfl rfl) h1
  clear hA0 hval0
  refine (walk a0v n0v c0v z0v a0m n0m c0m z0m a1v n1v c1v z1v a1m n1m c1m z1m W w0v w0m w1v w1m).mono fun e W' ⟨he, bel⟩ => ?_
  subst he
  exact ⟨_, rfl, _, _, _, [], _, [], hW', trodAll_mk1 (shut_bool Try.underlying4 _), (trodAll_cons_mk (Below.trod laidOut (by kernel_rfl) (of_decide_eq_true (by kernel_rfl)) k0 bel lt0) (trodAll_cons_mk (Below.trod laidOut (by kernel_rfl) (of_decide_eq_true (by kernel_rfl)) k1 bel lt1) trodAll_mk0)), rfl, bel.frame _, fun h => by cases h⟩

theorem over : Rows.fnExactMeetOfRow.holds Try.pinned (OpenSpec.ofChange Rows.fnExactMeetOfSpec) :=
  OpenClaim.holds_of_wide 10 Try.f10 rfl rfl rfl rfl rfl rfl rfl ⟨rfl, rfl, rfl, rfl, rfl⟩ rfl rfl rfl rfl rfl (by kernel_rfl) Try.func10 (by kernel_rfl)
    (of_decide_eq_true (by kernel_rfl)) (by unfold Func.isWrapper; first | (rw [if_pos (by decide +kernel)]; kernel_rfl) | (rw [if_neg (by decide +kernel)]; exact ⟨rfl, rfl⟩))
    (fun os started H enc _ => lifted os started H enc)

theorem proved : Rows.FnExactMeetOfSaid := over
end Go.Proofs.Ytkakdldhinimoaa.fnExactMeetOf

namespace Go.Proofs.Ytkakdldhinimoaa
theorem FnExactMeetOf_holds : Rows.FnExactMeetOfSaid := fnExactMeetOf.proved
end Go.Proofs.Ytkakdldhinimoaa
