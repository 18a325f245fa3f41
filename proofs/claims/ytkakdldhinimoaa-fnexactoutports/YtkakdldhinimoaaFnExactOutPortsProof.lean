/- At every head, ports and actions the program and the specification name the same ports; the arguments read as before, what is handed back is the call's own, behind another call too; no condition. -/
import Derived.Test.YtkakdldhinimoaaRows
import Derived.Test.YtkakdldhinimoaaZo
import Derived.Test.YtkakdldhinimoaaLm
import Derived.Test.YtkakdldhinimoaaRg
import Derived.WalkKit
import Derived.ProofKit
import Derived.OpenShut
import Derived.ShutString
import Derived.ChangeOld
import Derived.Below
import Derived.Deep.RegionWith
import Derived.Deep.RegionHeld3
namespace Go.Proofs.Ytkakdldhinimoaa.fnExactOutPorts
open Go.ChangeShapes Go.WideShapes Go.ChangeAt Go.RowKit
set_option linter.unusedVariables false
set_option linter.unusedSimpArgs false

theorem own : ownKnob Try.prog.godebug = none := by kernel_rfl
theorem laidOut : laidOutB Try.prog = true := by kernel_rfl

set_option maxRecDepth 8000 in
set_option maxHeartbeats 16000000 in
theorem walk (a0 : Option Addr) (n0 c0 : Nat) (z0 : List Int) (a1 : Option Addr) (n1 c1 : Nat) (z1 : List Int) (a2 : Option Addr) (n2 c2 : Nat) (z2 : List Yb.A3) (w : World) (w0 : Rw.IsRow .i64 w a0 n0 c0 z0) (w1 : Rw.IsRow .i64 w a1 n1 c1 z1) (w2 : Yb.IsRow w a2 n2 z2) :
    Calls Try.prog 8 #[.agg #[.slice a0 n0 c0], .slice a1 n1 c1, .slice a2 n2 c2] w fun e w' => e = .returned (.bool true) ∧ Below w.heap.size w w' := by
  have mx0 := Hr.isRow_max w0
  have mx2 := Yb.isRow_max w2
  by_cases hb1 : 1048576 < n1
  · have hbz : (1048576 : Int) < (n1 : Int) := by omega
    go_enter Try.func8, Try.ntmps8
    go_wp2
    go_ret
    exact ⟨rfl, Pl.below_alloc1 _ _⟩
  have hbz : ¬ (1048576 : Int) < (n1 : Int) := by omega
  by_cases hb0 : 1048576 < n0
  · go_enter Try.func8, Try.ntmps8
    go_wp2_with (go_at_call 25; refine (Lm.szH_big _ _ _ 1048576 _ hb0 (Nat.le_refl _) mx0).mono ?_; rintro e wa ⟨rfl, hb⟩)
    go_ret
    exact ⟨rfl, Rw.next (Pl.below_alloc1 _ _) hb⟩
  obtain ⟨L1, hL1⟩ : ∃ L1, n0 + L1 = 1048576 := ⟨1048576 - n0, by omega⟩
  have hp1 : ¬ ((L1 : Int) < 0) := by omega
  by_cases hb2 : L1 < n2
  · go_enter Try.func8, Try.ntmps8
    go_wp2_with (first | (go_at_call 25; refine (Rg.szH_at _ _ _ 1048576 L1 _ hL1 (Nat.le_refl _)).mono ?_; rintro e wa ⟨rfl, hb⟩) | (go_at_call 16; refine (Yb.sz_big _ _ _ L1 _ hb2 (by omega) mx2).mono ?_; rintro e wb ⟨rfl, hw⟩; replace hw := hw.symm; subst hw))
    go_ret
    exact ⟨rfl, Rw.next (Pl.below_alloc1 _ _) hb⟩
  have hp2 : ¬ (((L1 : Int) - (n2 : Int)) < 0) := by omega
  obtain ⟨b0, o0, V, hV, r0⟩ := Hr.rd_of_isRow w0 (by omega)
  subst hV
  obtain ⟨b1, o1, P, hP, r1⟩ := Hr.rd_of_isRow w1 (by omega)
  subst hP
  obtain ⟨b2, o2, A, hA, r2⟩ := Yb.rd_of_isRow w2 (by omega)
  subst hA
  have lV : V.length ≤ 1048576 := by omega
  have lP : P.length ≤ 1048576 := by omega
  have lA : A.length ≤ 1048576 := by omega
  obtain ⟨R, L, _, _, _, hI, hS, _⟩ := Yt.allR V P A
  obtain ⟨K, hK⟩ : ∃ K, K = Yr.outs (L.map (·.1)) 255 := ⟨_, rfl⟩
  rw [← hK] at hI hS
  have lK : K.length ≤ 255 := by rw [hK]; exact Yt.outs_len _ _
  have HI : Hid (Ys.CO 37 V P A K) := hI
  have HS : Hid (Ys.CO 36 V P A K) := hS
  clear hI hS hK w0 w1 w2 mx0 mx2 hb0 hb1
  obtain ⟨W0, hW0⟩ : ∃ W0, W0 = w.alloc (.cells #[.slice a0 V.length c0] 37) := ⟨_, rfl⟩
  have B : Below w.heap.size w W0 := by subst hW0; exact Pl.below_alloc1 _ _
  have k3 : W0.heap[w.heap.size]? = some (.cells #[.slice a0 V.length c0] 37 (0, 0)) := by subst hW0; exact Pl.at_new rfl
  have z3 : w.heap.size < W0.heap.size := by subst hW0; simp
  replace r0 := r0.below B
  replace r1 := r1.below B
  replace r2 := r2.below B
  have e3 := Hh.one k3
  go_enter Try.func8, Try.ntmps8
  have t1 : True := trivial
  go_wp2_with (go_at_call 25; clear t1; rw [← hW0]; refine (Rg.szH_at _ _ _ 1048576 L1 _ hL1 (Nat.le_refl _)).mono ?_; rintro e wa ⟨rfl, hb⟩; replace r0 := r0.below hb; replace r1 := r1.below hb; replace r2 := r2.below hb; replace k3 := (hb.block _ z3).trans k3; replace z3 := Nat.lt_of_lt_of_le z3 hb.size; replace B := Rw.next B hb; clear e3; have e3 := Hh.one k3; clear hb)
  have t2 : True := trivial
  go_wp2_with (go_at_call 16; clear t2; refine (Yb.sz_small _ _ _ L1 _ (by omega) (by omega)).mono ?_; rintro e wb ⟨rfl, hw⟩; replace hw := hw.symm; subst hw)
  have t3 : True := trivial
  go_wp2_with (go_at_call 27; clear t3; refine (Hh.toHead_any _ _ _ _ _ _ r0).mono ?_; rintro e wb ⟨gh, rfl, hb, hgh, mh⟩; replace r0 := r0.below hb; replace r1 := r1.below hb; replace r2 := r2.below hb; replace k3 := (hb.block _ z3).trans k3; replace z3 := Nat.lt_of_lt_of_le z3 hb.size; replace B := Rw.next B hb; clear e3; have e3 := Hh.one k3; clear hb)
  have t4 : True := trivial
  go_wp2_with (go_at_call 13; clear t4; refine (Hr.toIntS_any _ _ _ _ _ _ r1).mono ?_; rintro e wc ⟨rfl, hb, mp⟩; replace r0 := r0.below hb; replace r1 := r1.below hb; replace r2 := r2.below hb; replace k3 := (hb.block _ z3).trans k3; replace z3 := Nat.lt_of_lt_of_le z3 hb.size; replace B := Rw.next B hb; clear e3; have e3 := Hh.one k3; replace mh := mh.below hb; clear hb)
  have t5 : True := trivial
  go_wp2_with (go_at_call 18; clear t5; refine (Yb.toActS_any _ _ _ _ _ _ r2).mono ?_; rintro e wd ⟨rfl, hb, ma⟩; replace r0 := r0.below hb; replace r1 := r1.below hb; replace r2 := r2.below hb; replace k3 := (hb.block _ z3).trans k3; replace z3 := Nat.lt_of_lt_of_le z3 hb.size; replace B := Rw.next B hb; clear e3; have e3 := Hh.one k3; replace mh := mh.below hb; replace mp := mp.below hb; clear hb)
  have t6 : True := trivial
  go_wp2_with (go_at_call 36; clear t6; refine (HS.out _ _ _ _ _ _ _ _ _ _ _ _ _ mh.rd mp.rd ma.rd).mono ?_; rintro e Wc ⟨gw, cw, rfl, ow, _, hb⟩; replace r0 := r0.below hb; replace r1 := r1.below hb; replace r2 := r2.below hb; replace k3 := (hb.block _ z3).trans k3; replace z3 := Nat.lt_of_lt_of_le z3 hb.size; replace B := Rw.next B hb; clear e3; have e3 := Hh.one k3; clear hb mh mp ma HS; have bC := Below.refl Wc.heap.size Wc)
  have t7 : True := trivial
  go_wp2_with (go_at_call 27; clear t7; refine (Hh.toHead_any _ _ _ _ _ _ r0).mono ?_; rintro e we ⟨gx, rfl, hb, hgx, mx⟩; replace bC := Rw.next bC hb; clear e3; have e3 := Hh.one ((bC.block _ z3).trans k3); have lx := mx.row.lt; have sx := hb.size; clear hb; have hX : (we.alloc (.cells #[.slice (some ⟨gx, 0, none⟩) V.length V.length] 42)).heap[we.heap.size]? = some (.cells #[.slice (some ⟨gx, 0, none⟩) V.length V.length] 42 (0, 0)) := Pl.at_new rfl; have bX := Pl.below_alloc1 we (.cells #[.slice (some ⟨gx, 0, none⟩) V.length V.length] 42); have mx2 := mx.below bX; have bC2 := Rw.next bC bX)
  obtain ⟨Wx, hWx⟩ : ∃ Wx, Wx = we.alloc (.cells #[.slice (some ⟨gx, 0, none⟩) V.length V.length] 42) := ⟨_, rfl⟩
  rw [← hWx] at hX bX mx2 bC2
  clear mx bC e3
  have mx := mx2
  have bC := bC2
  clear mx2 bC2
  have kX := hX
  clear hX
  have zX := (Array.getElem?_eq_some_iff.1 kX).1
  have sX := bX.size
  clear bX
  have hXlo : Wc.heap.size ≤ we.heap.size := by omega
  have hXgx : gx < we.heap.size := lx
  have ltX := zX
  have e3 := Hh.one ((bC.block _ z3).trans k3)
  have eX := Hh.one kX
  have t8 : True := trivial
  go_wp2_with (go_at_call 13; clear t8; rw [← hWx]; refine (Hr.toIntS_any _ _ _ _ _ _ (r1.below bC)).mono ?_; rintro e wf ⟨rfl, hb, m1⟩; clear e3; clear eX; clear hWx; have s1 := hb.size; replace bC := Rw.next bC hb; replace kX := (hb.block _ zX).trans kX; replace zX := Nat.lt_of_lt_of_le zX hb.size; replace mx := mx.below hb; clear hb; have e3 := Hh.one ((bC.block _ z3).trans k3); have eX := Hh.one kX)
  have l1 := m1.row.lt
  have t9 : True := trivial
  go_wp2_with (go_at_call 18; clear t9; refine (Yb.toActS_any _ _ _ _ _ _ (r2.below bC)).mono ?_; rintro e wg ⟨rfl, hb, m2⟩; clear e3; clear eX; have s2 := hb.size; replace bC := Rw.next bC hb; replace kX := (hb.block _ zX).trans kX; replace zX := Nat.lt_of_lt_of_le zX hb.size; replace mx := mx.below hb; replace m1 := m1.below hb; clear hb; have e3 := Hh.one ((bC.block _ z3).trans k3); have eX := Hh.one kX)
  have l2 := m2.row.lt
  have t10 : True := trivial
  go_wp2_with (go_at_call 37; clear t10; refine (HI.out _ _ _ _ _ _ _ _ _ _ _ _ _ mx.rd m1.rd m2.rd).mono ?_; rintro e Wg ⟨gg, cg, rfl, og, hgg, hb⟩; clear e3; clear eX; replace bC := Rw.next bC hb; replace kX := (hb.block _ zX).trans kX; replace zX := Nat.lt_of_lt_of_le zX hb.size; replace mx := mx.below hb; replace m1 := m1.below hb; replace m2 := m2.below hb; clear hb; have e3 := Hh.one ((bC.block _ z3).trans k3); have eX := Hh.one kX)
  have t11 : True := trivial
  go_wp2_with (go_at_call 15; clear t11; refine (Hr.eqIntS_any _ _ _ _ _ _ _ _ _ _ _ og.rd (ow.below bC).rd).mono ?_; rw [decide_eq_true rfl]; rintro e wh ⟨rfl, hb⟩; clear e3; clear eX; replace bC := Rw.next bC hb; replace kX := (hb.block _ zX).trans kX; replace zX := Nat.lt_of_lt_of_le zX hb.size; replace mx := mx.below hb; replace m1 := m1.below hb; replace m2 := m2.below hb; replace og := og.below hb; clear hb; have e3 := Hh.one ((bC.block _ z3).trans k3); have eX := Hh.one kX)
  go_wp2_with fail
  clear e3 eX
  have k3w := (bC.block _ z3).trans k3
  refine wp_region_held_drew (S := fun w' => w'.heap[we.heap.size]? = some (.cells #[.slice (some ⟨gx, 0, none⟩) V.length V.length] 42 (0, 0)) ∧ w'.heap[w.heap.size]? = some (.cells #[.slice a0 V.length c0] 37 (0, 0))) (by kernel_rfl) ⟨kX, k3w⟩ (fun hHeld => ?_)
  refine Pq.take (i := 0) (d := some 51) (v := .agg #[.slice (some ⟨gx, 0, none⟩) V.length V.length]) rfl (by kernel_rfl) (by kernel_rfl) (by kernel_rfl) (by kernel_rfl) (fun _ _ _ h => h) (Or.inl ⟨by rfl, by intro w hSw; have q1 := Hh.one hSw.1; go_simp⟩) hHeld ?_
  simp only [Act.put, List.setIfInBounds_toArray, List.set_cons_zero, List.set_cons_succ]
  refine Pq.take (i := 1) (d := some 52) (v := .agg #[.slice a0 V.length c0]) rfl (by kernel_rfl) (by kernel_rfl) (by kernel_rfl) (by kernel_rfl) (fun _ _ _ h => h) (Or.inl ⟨by rfl, by intro w hSw; have q1 := Hh.one hSw.2; go_simp⟩) hHeld ?_
  simp only [Act.put, List.setIfInBounds_toArray, List.set_cons_zero, List.set_cons_succ]
  refine wpAnyH_ready (rs := [2]) (by kernel_rfl) (by simp) (Rg.call1 rfl (by kernel_rfl) 27 (.tmp 52) 37 (by kernel_rfl) 53 (by kernel_rfl) (.agg #[.slice a0 V.length c0]) (by kernel_rfl) (fun _ => rfl) (Hh.toHead_any _ _ _ _ _ _ ((r0.below bC).below (Below.drew (Below.refl _ wh)))) ?_ AllReadyH.nil)
  rintro e wi ⟨gy, rfl, hb, hgy, my⟩
  replace hb := Rw.next (Below.drew (Below.refl _ wh)) hb
  replace bC := Rw.next bC hb
  replace kX := (hb.block _ zX).trans kX
  replace zX := Nat.lt_of_lt_of_le zX hb.size
  replace mx := mx.below hb
  replace m1 := m1.below hb
  replace m2 := m2.below hb
  replace og := og.below hb
  clear hb
  replace k3w := (bC.block _ z3).trans k3
  refine ⟨_, rfl, ⟨kX, k3w⟩, fun hHeld => ?_⟩
  simp only [Act.put, List.setIfInBounds_toArray, List.set_cons_zero, List.set_cons_succ]
  refine wpAnyH_ready (rs := [3]) (by kernel_rfl) (by simp) (Rg.call2 rfl (by kernel_rfl) 30 (.tmp 51) (.tmp 53) 42 42 (by kernel_rfl) 54 (by kernel_rfl) (.agg #[.slice (some ⟨gx, 0, none⟩) V.length V.length]) (.agg #[.slice (some ⟨gy, 0, none⟩) V.length V.length]) (by kernel_rfl) (by kernel_rfl) (fun _ => rfl) (Hh.eqHead_same _ _ _ _ _ _ _ _ _ _ mx.rd my.rd) ?_ AllReadyH.nil)
  rintro e wj ⟨rfl, hb⟩
  replace bC := Rw.next bC hb
  replace kX := (hb.block _ zX).trans kX
  replace zX := Nat.lt_of_lt_of_le zX hb.size
  replace mx := mx.below hb
  replace m1 := m1.below hb
  replace m2 := m2.below hb
  replace og := og.below hb
  clear hb my
  replace k3w := (bC.block _ z3).trans k3
  refine ⟨_, rfl, ⟨kX, k3w⟩, fun hHeld => ?_⟩
  simp only [Act.put, List.setIfInBounds_toArray, List.set_cons_zero, List.set_cons_succ]
  refine Pq.take (i := 4) (d := some 55) (v := .bool false) rfl (by kernel_rfl) (by kernel_rfl) (by kernel_rfl) (by kernel_rfl) (fun _ _ _ h => h) (Or.inl ⟨by rfl, by intro w hSw; go_simp⟩) hHeld ?_
  simp only [Act.put, List.setIfInBounds_toArray, List.set_cons_zero, List.set_cons_succ]
  refine wpAnyH_done (by kernel_rfl) ?_ _
  have e3 := Hh.one k3w
  clear k3w
  have eX := Hh.one kX
  have t12 : True := trivial
  go_wp2_with (go_at_call 13; clear t12; refine (Hr.toIntS_any _ _ _ _ _ _ (r1.below bC)).mono ?_; rintro e wk ⟨rfl, hb, my⟩; clear e3; clear eX; replace bC := Rw.next bC hb; replace kX := (hb.block _ zX).trans kX; replace zX := Nat.lt_of_lt_of_le zX hb.size; replace mx := mx.below hb; replace m1 := m1.below hb; replace m2 := m2.below hb; replace og := og.below hb; clear hb; have e3 := Hh.one ((bC.block _ z3).trans k3); have eX := Hh.one kX)
  have t13 : True := trivial
  go_wp2_with (go_at_call 15; clear t13; refine (Hr.eqIntS_any _ _ _ _ _ _ _ _ _ _ _ m1.rd my.rd).mono ?_; rw [decide_eq_true rfl]; rintro e wl ⟨rfl, hb⟩; clear e3; clear eX; replace bC := Rw.next bC hb; replace kX := (hb.block _ zX).trans kX; replace zX := Nat.lt_of_lt_of_le zX hb.size; replace mx := mx.below hb; replace m1 := m1.below hb; replace m2 := m2.below hb; replace og := og.below hb; clear hb; have e3 := Hh.one ((bC.block _ z3).trans k3); have eX := Hh.one kX)
  have t14 : True := trivial
  go_wp2_with (go_at_call 18; clear t14; refine (Yb.toActS_any _ _ _ _ _ _ (r2.below bC)).mono ?_; rintro e wm ⟨rfl, hb, mz⟩; clear e3; clear eX; replace bC := Rw.next bC hb; replace kX := (hb.block _ zX).trans kX; replace zX := Nat.lt_of_lt_of_le zX hb.size; replace mx := mx.below hb; replace m1 := m1.below hb; replace m2 := m2.below hb; replace og := og.below hb; clear hb; clear my; have e3 := Hh.one ((bC.block _ z3).trans k3); have eX := Hh.one kX)
  have t15 : True := trivial
  go_wp2_with (go_at_call 20; clear t15; refine (Yb.eqActS_any _ _ _ _ _ _ _ _ _ _ _ m2.rd mz.rd).mono ?_; rw [decide_eq_true rfl]; rintro e wn ⟨rfl, hb⟩; clear e3; clear eX; replace bC := Rw.next bC hb; replace kX := (hb.block _ zX).trans kX; replace zX := Nat.lt_of_lt_of_le zX hb.size; replace mx := mx.below hb; replace m1 := m1.below hb; replace m2 := m2.below hb; replace og := og.below hb; clear hb; clear mz; have e3 := Hh.one ((bC.block _ z3).trans k3); have eX := Hh.one kX)
  have hk0 : ¬ (1 + (V.length : Int) + (P.length : Int) + 3 * (A.length : Int) < 0) := by omega
  have hlo : Wc.heap.size ≤ gx := hgx
  have hg1 : gx < Wx.heap.size := by omega
  have hg2 : gx < wf.heap.size := by omega
  have hgB : gg ≠ gx := by omega
  have h12 : Wx.heap.size < wf.heap.size := l1
  have h1B : gg ≠ Wx.heap.size := by omega
  have h2B : gg ≠ wf.heap.size := by omega
  have hlo1 : Wc.heap.size ≤ Wx.heap.size := by omega
  have hlo2 : Wc.heap.size ≤ wf.heap.size := by omega
  have t16 : True := trivial
  go_wp2_with (go_at_call 31; clear t16; refine (Hh.markHead_any _ _ _ _ _ (Hr.mine_wt mx)).mono ?_; rintro e wo ⟨rfl, hon, _, _⟩; clear e3 eX; replace m1 := Yq.mine_only m1 hon (by omega); replace m2 := Yq.mineA_only m2 hon (by omega); replace og := og.of_block (hon.block _ og.lt (by simpa using hgB)); replace bC := hon.below bC bC.size hlo; clear hon mx kX; have e3 := Hh.one ((bC.block _ z3).trans k3))
  have t17 : True := trivial
  go_wp2_with (go_at_call 32; clear t17; refine (Mf.markF_any (1 + (V.length : Int)) (by omega) (by omega) _ _ _ _ _ (Hr.mine_wt m1)).mono ?_; rintro e wp ⟨rfl, hk, _⟩; have hon := hk.only; clear e3; replace m2 := Yq.mineA_only m2 hon (by omega); replace og := og.of_block (hon.block _ og.lt (by simpa using h1B)); replace bC := hon.below bC bC.size hlo1; clear hon hk m1; have e3 := Hh.one ((bC.block _ z3).trans k3))
  have t18 : True := trivial
  go_wp2_with (go_at_call 33; clear t18; refine (Yp.markActS_any (1 + (V.length : Int) + (P.length : Int)) (by omega) (by omega) _ _ _ _ m2).mono ?_; rintro e wq ⟨rfl, hon⟩; clear e3; replace og := og.of_block (hon.block _ og.lt (by simpa using h2B)); replace bC := hon.below bC bC.size hlo2; clear hon m2; have e3 := Hh.one ((bC.block _ z3).trans k3))
  have t19 : True := trivial
  go_wp2_with (go_at_call 15; clear t19; refine (Hr.eqIntS_any _ _ _ _ _ _ _ _ _ _ _ og.rd (ow.below bC).rd).mono ?_; rw [decide_eq_true rfl]; rintro e wr ⟨rfl, hb⟩; clear e3; replace bC := Rw.next bC hb; replace og := og.below hb; clear hb; have e3 := Hh.one ((bC.block _ z3).trans k3))
  have hCg : Wc.heap.size ≤ gg := by omega
  have hq9 : ¬ (1 + (K.length : Int) < 0) := by omega
  have t20 : True := trivial
  go_wp2_with (go_at_call 32; clear t20; refine (Hr.mark_any _ _ _ _ _ og.wt).mono ?_; rintro e ws ⟨rfl, hon, me⟩; clear e3 og; replace bC := hon.below bC bC.size hCg; clear hon; have e3 := Hh.one ((bC.block _ z3).trans k3))
  have t21 : True := trivial
  go_wp2_with (go_at_call 38; clear t21; refine (Hr.held_any _ _ _ _ _ me).mono ?_; rintro e wt ⟨rfl, hw⟩; replace hw := hw.symm; subst hw)
  have t22 : True := trivial
  go_wp2_with (go_at_call 27; clear t22; refine (Hh.toHead_any _ _ _ _ _ _ (r0.below bC)).mono ?_; rintro e wu ⟨gh, rfl, hb, hgh, mh⟩; clear e3; replace bC := Rw.next bC hb; replace me := me.below hb; clear hb; have e3 := Hh.one ((bC.block _ z3).trans k3))
  have t23 : True := trivial
  go_wp2_with (go_at_call 13; clear t23; refine (Hr.toIntS_any _ _ _ _ _ _ (r1.below bC)).mono ?_; rintro e wv ⟨rfl, hb, mp⟩; clear e3; replace bC := Rw.next bC hb; replace me := me.below hb; replace mh := mh.below hb; clear hb; have e3 := Hh.one ((bC.block _ z3).trans k3))
  have t24 : True := trivial
  go_wp2_with (go_at_call 18; clear t24; refine (Yb.toActS_any _ _ _ _ _ _ (r2.below bC)).mono ?_; rintro e ww ⟨rfl, hb, ma⟩; clear e3; replace bC := Rw.next bC hb; replace me := me.below hb; replace mh := mh.below hb; replace mp := mp.below hb; clear hb; have e3 := Hh.one ((bC.block _ z3).trans k3))
  have t25 : True := trivial
  go_wp2_with (go_at_call 37; clear t25; refine (HI.out _ _ _ _ _ _ _ _ _ _ _ _ _ mh.rd mp.rd ma.rd).mono ?_; rintro e wy ⟨gq, cq, rfl, oq, _, hb⟩; clear e3; replace bC := Rw.next bC hb; replace me := me.below hb; clear hb; clear mh mp ma; have e3 := Hh.one ((bC.block _ z3).trans k3))
  have t26 : True := trivial
  go_wp2_with (go_at_call 15; clear t26; refine (Hr.eqIntS_any _ _ _ _ _ _ _ _ _ _ _ oq.rd (ow.below bC).rd).mono ?_; rw [decide_eq_true rfl]; rintro e wz ⟨rfl, hb⟩; clear e3; replace bC := Rw.next bC hb; replace me := me.below hb; clear hb; clear oq; have e3 := Hh.one ((bC.block _ z3).trans k3))
  have t27 : True := trivial
  go_wp2_with (go_at_call 38; clear t27; refine (Hr.held_any _ _ _ _ _ me).mono ?_; rintro e wt ⟨rfl, hw⟩; replace hw := hw.symm; subst hw)
  go_ret
  exact ⟨rfl, B.trans (bC.mono B.size)⟩

set_option maxRecDepth 100000 in
theorem lifted (os : Os) (started : os.Started) (H : Type) (enc : TypeId × Value → H) :
    ReturnsInHanded {} Try.checked os 8 .any (Rows.fnExactOutPortsSpec.pre6 enc Try.prog Try.f8 Rows.fnExactOutPortsRow.domain false) (Rows.fnExactOutPortsSpec.post enc Try.prog Try.f8 false true false false) := by
  refine returnsInHanded_of_change (C := Try.checked) own started (by kernel_rfl) Try.func8
    (ChangeSpec.witness6 (enc := enc) (C := Try.checked) false ⟨#[], #[.agg #[.slice none 0 0], .slice none 0 0, .slice none 0 0], []⟩ 8 (by kernel_rfl) (by kernel_rfl) (by kernel_rfl) (by kernel_rfl)) ?_
  intro W base args ds gs before hval0 hW hcnd _
  have hval : ∀ (j : Nat) t v, Try.f8.params[j]? = some t → args[j]? = some v → Value.okWide Try.prog W .any base t v := hval0
  have hW' := hW
  obtain ⟨p, q, hA0, hV, rfl, hfz, hnd⟩ := hW
  have hA : DataW.TrodAll enc Try.prog W 0 (fun _ => true) true Try.f8.params.toList args.toList ds p := hA0
  rw [Try.params8] at hA hval
  obtain ⟨v0, vs0, d0, ds0, p0, q0, hargs, rfl, rfl, h0, r0⟩ := trodAll_cons hA
  obtain ⟨v1, vs1, d1, ds1, p1, q1, rfl, rfl, rfl, h1, r1⟩ := trodAll_cons r0
  obtain ⟨v2, vs2, d2, ds2, p2, q2, rfl, rfl, rfl, h2, r2⟩ := trodAll_cons r1
  obtain ⟨rfl, rfl, rfl⟩ := trodAll_nil r2
  obtain rfl : args = #[v0, v1, v2] := by cases args; simp_all
  obtain ⟨rfl, rfl⟩ := trodVars_none hV
  have k0 := h0
  have lt0 : ∀ x ∈ p0, x.block < W.heap.size := by obtain ⟨m, hm⟩ := k0; exact DataW.trod_lt m _ _ _ hm
  obtain ⟨a0, n0, c0, z0, rfl, w0⟩ := Hh.open_head (hval 0 37 v0 rfl rfl) h0
  have k1 := h1
  have lt1 : ∀ x ∈ p1, x.block < W.heap.size := by obtain ⟨m, hm⟩ := k1; exact DataW.trod_lt m _ _ _ hm
  obtain ⟨a1, n1, c1, rfl⟩ := okWide_slice Try.underlying22 (hval 1 22 v1 rfl rfl)
  obtain ⟨z1, w1⟩ : ∃ zs, Rw.IsRow .i64 W a1 n1 c1 zs := by
    obtain ⟨fuel, hf⟩ := h1
    rcases open_ints Try.underlying22 Try.underlying3 (by kernel_rfl) hf with ⟨hcs, _⟩ | ⟨x, l, c, zs, hcs, _, hl, hm, hz, _, hcell, hwz⟩
    · simp [Value.cells] at hcs
      obtain ⟨rfl, rfl, rfl⟩ := hcs
      exact ⟨[], .inl ⟨rfl, rfl, rfl, rfl⟩⟩
    · simp [Value.cells] at hcs
      obtain ⟨rfl, rfl, rfl⟩ := hcs
      exact ⟨zs, .inr ⟨_, rfl, hl, hm, by simpa using hz, hcell, hwz⟩⟩
  have k2 := h2
  have lt2 : ∀ x ∈ p2, x.block < W.heap.size := by obtain ⟨m, hm⟩ := k2; exact DataW.trod_lt m _ _ _ hm
  obtain ⟨a2, n2, c2, rfl⟩ := okWide_slice Try.underlying26 (hval 2 26 v2 rfl rfl)
  obtain ⟨z2, w2⟩ := Yb.open_acts h2
  clear hA0 hval0
  refine (walk a0 n0 c0 z0 a1 n1 c1 z1 a2 n2 c2 z2 W w0 w1 w2).mono fun e W' ⟨he, bel⟩ => ?_
  subst he
  exact ⟨_, rfl, _, _, _, [], _, [], hW', trodAll_mk1 (shut_bool Try.underlying4 _), (trodAll_cons_mk (Below.trod laidOut (by kernel_rfl) (of_decide_eq_true (by kernel_rfl)) k0 bel lt0) (trodAll_cons_mk (Below.trod laidOut (by kernel_rfl) (of_decide_eq_true (by kernel_rfl)) k1 bel lt1) (trodAll_cons_mk (Below.trod laidOut (by kernel_rfl) (of_decide_eq_true (by kernel_rfl)) k2 bel lt2) trodAll_mk0))), rfl, bel.frame _, fun h => by cases h⟩

theorem over : Rows.fnExactOutPortsRow.holds Try.pinned (OpenSpec.ofChange Rows.fnExactOutPortsSpec) :=
  OpenClaim.holds_of_wide 8 Try.f8 rfl rfl rfl rfl rfl rfl rfl ⟨rfl, rfl, rfl, rfl, rfl⟩ rfl rfl rfl rfl rfl (by kernel_rfl) Try.func8 (by kernel_rfl)
    (of_decide_eq_true (by kernel_rfl)) (by unfold Func.isWrapper; first | (rw [if_pos (by decide +kernel)]; kernel_rfl) | (rw [if_neg (by decide +kernel)]; exact ⟨rfl, rfl⟩))
    (fun os started H enc _ => lifted os started H enc)

theorem proved : Rows.FnExactOutPortsSaid := over
end Go.Proofs.Ytkakdldhinimoaa.fnExactOutPorts

namespace Go.Proofs.Ytkakdldhinimoaa
theorem FnExactOutPorts_holds : Rows.FnExactOutPortsSaid := fnExactOutPorts.proved
end Go.Proofs.Ytkakdldhinimoaa
