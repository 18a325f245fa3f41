/- At every match the program and the specification answer the same, the arguments read as before; no condition. -/
import Derived.Test.YtbplpfcplpoeiaaRows
import Derived.Test.YtbplpfcplpoeiaaLm
import Derived.Test.YtbplpfcplpoeiaaLf
import Derived.WalkKit
import Derived.ProofKit
import Derived.OpenShut
import Derived.ShutString
import Derived.ChangeOld
import Derived.Below
import Derived.Deep.RegionWith
import Derived.Deep.RegionHeld3
namespace Go.Proofs.Ytbplpfcplpoeiaa.fnExactAsked
open Go.ChangeShapes Go.WideShapes Go.ChangeAt Go.RowKit
set_option linter.unusedVariables false
set_option linter.unusedSimpArgs false

theorem own : ownKnob Try.prog.godebug = none := by kernel_rfl
theorem laidOut : laidOutB Try.prog = true := by kernel_rfl

set_option maxHeartbeats 8000000 in
theorem walk (a0v : Option Addr) (n0v c0v : Nat) (z0v : List Int) (a0m : Option Addr) (n0m c0m : Nat) (z0m : List Int) (w : World) (w0v : Rw.IsRow .i64 w a0v n0v c0v z0v) (w0m : Rw.IsRow .i64 w a0m n0m c0m z0m) :
    Calls Try.prog 13 #[.agg #[.slice a0v n0v c0v, .slice a0m n0m c0m]] w fun e w' => e = .returned (.bool true) ∧ Below w.heap.size w w' := by
  have mx0v := Hr.isRow_max w0v
  have mx0m := Hr.isRow_max w0m
  by_cases hb0 : 1048576 < n0v + n0m
  · clear w0v w0m
    go_enter Try.func13, Try.ntmps13
    go_wp2_with (go_at_call 27; refine (Lm.szM_big _ _ _ _ _ _ 1048576 _ hb0 (Nat.le_refl _) mx0v mx0m).mono ?_; rintro e wa ⟨rfl, hb⟩)
    go_ret
    exact ⟨rfl, Rw.next (Pl.below_alloc1 _ _) hb⟩
  obtain ⟨L1, hL1⟩ : ∃ L1, n0v + n0m + L1 = 1048576 := ⟨1048576 - (n0v + n0m), by omega⟩
  have hp1 : ¬ ((L1 : Int) < 0) := by omega
  obtain ⟨b0v, o0v, V0, hV0, r0v, wdV0⟩ := Lm.rd_wide w0v (by omega)
  subst hV0
  obtain ⟨b0m, o0m, M0, hM0, r0m, wdM0⟩ := Lm.rd_wide w0m (by omega)
  subst hM0
  clear w0v mx0v w0m mx0m
  have smV0 : V0.length ≤ 1048576 := by omega
  have ltV0 := Hr.rd_lt r0v
  have smM0 : M0.length ≤ 1048576 := by omega
  have ltM0 := Hr.rd_lt r0m
  obtain ⟨R, hI, hS⟩ := Lf.askedR V0 M0 wdV0 wdM0
  have HI : Hid (Rg.CM 21 V0 M0 (Rg.Nu R)) := hI
  have HS : Hid (Rg.CM 44 V0 M0 (Rg.Nu R)) := hS
  clear hI hS wdV0 wdM0
  obtain ⟨W0, hW0⟩ : ∃ W0, W0 = (w.alloc (.cells #[.slice a0v V0.length c0v, .slice a0m M0.length c0m] 40)) := ⟨_, rfl⟩
  have B : Below w.heap.size w W0 := by subst hW0; exact Pl.below_alloc1 _ _
  have k0 : W0.heap[w.heap.size]? = some (.cells #[.slice a0v V0.length c0v, .slice a0m M0.length c0m] 40 (0, 0)) := by subst hW0; exact Pl.at_new rfl
  have zk0 : w.heap.size < W0.heap.size := by subst hW0; simp <;> omega
  have syk0 := zk0
  replace r0v := r0v.below B
  replace r0m := r0m.below B
  go_enter Try.func13, Try.ntmps13
  have tk1 : True := trivial
  go_wp2_with (go_at_call 27; clear tk1; rw [← hW0]; refine (Rg.szM_at _ _ _ _ _ _ 1048576 L1 _ hL1 (Nat.le_refl _)).mono ?_; rintro e w1 ⟨rfl, hb⟩; have sz1 := hb.size; replace B := Rw.next B hb; replace k0 := (hb.block _ zk0).trans k0; replace zk0 := Nat.lt_of_lt_of_le zk0 hb.size; replace r0v := r0v.below hb; replace r0m := r0m.below hb; clear hb; obtain ⟨c0v, c0m⟩ := Pm.two k0)
  have tk2 : True := trivial
  go_wp2_with (go_at_call 29; clear tk2; refine (Lm.toMatch_any _ _ _ _ _ _ _ _ _ _ _ r0v r0m).mono ?_; rintro e w2 ⟨gav, gam, rfl, hb, galv, galm, gane, ha0v, ha0m⟩; have sz2 := hb.size; clear c0v c0m; replace B := Rw.next B hb; replace k0 := (hb.block _ zk0).trans k0; replace zk0 := Nat.lt_of_lt_of_le zk0 hb.size; replace r0v := r0v.below hb; replace r0m := r0m.below hb; clear hb; have ltha0v := ha0v.row.lt; have ltha0m := ha0m.row.lt; obtain ⟨c0v, c0m⟩ := Pm.two k0)
  have tk3 : True := trivial
  go_wp2_with (go_at_call 44; clear tk3; refine (HS.out _ _ _ _ _ _ _ _ _ ha0v.rd ha0m.rd).mono ?_; rintro e w3 ⟨rfl, hb⟩; have sz3 := hb.size; clear c0v c0m; replace B := Rw.next B hb; replace k0 := (hb.block _ zk0).trans k0; replace zk0 := Nat.lt_of_lt_of_le zk0 hb.size; replace r0v := r0v.below hb; replace r0m := r0m.below hb; replace ha0v := ha0v.below hb; replace ha0m := ha0m.below hb; clear hb; obtain ⟨c0v, c0m⟩ := Pm.two k0)
  clear ha0v ltha0v ha0m ltha0m
  have tk4 : True := trivial
  go_wp2_with (go_at_call 29; clear tk4; refine (Lm.toMatch_any _ _ _ _ _ _ _ _ _ _ _ r0v r0m).mono ?_; rintro e w4 ⟨gx0v, gx0m, rfl, hb, gx0lv, gx0lm, gx0ne, hx0v, hx0m⟩; have sz4 := hb.size; clear c0v c0m; replace B := Rw.next B hb; replace k0 := (hb.block _ zk0).trans k0; replace zk0 := Nat.lt_of_lt_of_le zk0 hb.size; replace r0v := r0v.below hb; replace r0m := r0m.below hb; clear hb; have ltx0v := hx0v.row.lt; have ltx0m := hx0m.row.lt; have BX := Pl.below_alloc1 w4 (.cells #[.slice (some ⟨gx0v, 0, none⟩) V0.length V0.length, .slice (some ⟨gx0m, 0, none⟩) M0.length M0.length] 25); replace B := Rw.next B BX; replace k0 := (BX.block _ zk0).trans k0; replace zk0 := Nat.lt_of_lt_of_le zk0 BX.size; replace r0v := r0v.below BX; replace r0m := r0m.below BX; replace hx0v := hx0v.below BX; replace hx0m := hx0m.below BX; have kx0 : (w4.alloc (.cells #[.slice (some ⟨gx0v, 0, none⟩) V0.length V0.length, .slice (some ⟨gx0m, 0, none⟩) M0.length M0.length] 25)).heap[w4.heap.size]? = some (.cells #[.slice (some ⟨gx0v, 0, none⟩) V0.length V0.length, .slice (some ⟨gx0m, 0, none⟩) M0.length M0.length] 25 (0, 0)) := Pl.at_new rfl; have zkx0 : w4.heap.size < (w4.alloc (.cells #[.slice (some ⟨gx0v, 0, none⟩) V0.length V0.length, .slice (some ⟨gx0m, 0, none⟩) M0.length M0.length] 25)).heap.size := (by simp); have sykx0 := zkx0; clear BX; obtain ⟨c0v, c0m⟩ := Pm.two k0; obtain ⟨x0v, x0m⟩ := Pm.two kx0)
  have tk5 : True := trivial
  go_wp2_with (go_at_call 21; clear tk5; refine (HI.out _ _ _ _ _ _ _ _ _ hx0v.rd hx0m.rd).mono ?_; rintro e w5 ⟨rfl, hb⟩; have sz5 := hb.size; clear c0v c0m x0v x0m; replace B := Rw.next B hb; replace k0 := (hb.block _ zk0).trans k0; replace zk0 := Nat.lt_of_lt_of_le zk0 hb.size; replace r0v := r0v.below hb; replace r0m := r0m.below hb; replace hx0v := hx0v.below hb; replace hx0m := hx0m.below hb; replace kx0 := (hb.block _ zkx0).trans kx0; replace zkx0 := Nat.lt_of_lt_of_le zkx0 hb.size; clear hb; obtain ⟨c0v, c0m⟩ := Pm.two k0; obtain ⟨x0v, x0m⟩ := Pm.two kx0)
  go_wp2_with fail
  clear c0v c0m x0v x0m
  refine wp_region_held_drew (S := (fun w' => w'.heap[w4.heap.size]? = some (.cells #[.slice (some ⟨gx0v, 0, none⟩) V0.length V0.length, .slice (some ⟨gx0m, 0, none⟩) M0.length M0.length] 25 (0, 0)) ∧ w'.heap[w.heap.size]? = some (.cells #[.slice a0v V0.length c0v, .slice a0m M0.length c0m] 40 (0, 0)))) (by kernel_rfl) ⟨kx0, k0⟩ (fun hHeld => ?_)
  have BD : Below w5.heap.size w5 w5.drew := (Below.refl _ _).drew
  have syd5 : w5.heap.size ≤ w5.drew.heap.size := Nat.le_refl _
  replace B := Rw.next B BD
  replace k0 := (BD.block _ zk0).trans k0
  replace zk0 := Nat.lt_of_lt_of_le zk0 BD.size
  replace r0v := r0v.below BD
  replace r0m := r0m.below BD
  replace hx0v := hx0v.below BD
  replace hx0m := hx0m.below BD
  replace kx0 := (BD.block _ zkx0).trans kx0
  replace zkx0 := Nat.lt_of_lt_of_le zkx0 BD.size
  clear BD
  refine Pq.take (i := 0) (d := some 22) (v := .agg #[.slice (some ⟨gx0v, 0, none⟩) V0.length V0.length, .slice (some ⟨gx0m, 0, none⟩) M0.length M0.length]) rfl (by kernel_rfl) (by kernel_rfl) (by kernel_rfl) (by kernel_rfl) (fun _ _ _ h => h) (Or.inl ⟨by rfl, by intro w hSw; obtain ⟨q0, q1⟩ := hSw; obtain ⟨t0, t1⟩ := Pm.two q0; go_simp⟩) hHeld ?_
  simp only [Act.put, List.setIfInBounds_toArray, List.set_cons_zero, List.set_cons_succ]
  refine Pq.take (i := 1) (d := some 23) (v := .agg #[.slice a0v V0.length c0v, .slice a0m M0.length c0m]) rfl (by kernel_rfl) (by kernel_rfl) (by kernel_rfl) (by kernel_rfl) (fun _ _ _ h => h) (Or.inl ⟨by rfl, by intro w hSw; obtain ⟨q0, q1⟩ := hSw; obtain ⟨t0, t1⟩ := Pm.two q1; go_simp⟩) hHeld ?_
  simp only [Act.put, List.setIfInBounds_toArray, List.set_cons_zero, List.set_cons_succ]
  refine wpAnyH_ready (rs := [2]) (by kernel_rfl) (by simp) (Rg.call1 rfl (by kernel_rfl) 29 (.tmp 23) 40 (by kernel_rfl) 24 (by kernel_rfl) (.agg #[.slice a0v V0.length c0v, .slice a0m M0.length c0m]) (by kernel_rfl) (fun _ => rfl) (Lm.toMatch_any _ _ _ _ _ _ _ _ _ _ _ r0v r0m) ?_ AllReadyH.nil)
  rintro e w6 ⟨gyv, gym, rfl, hb, gylv, gylm, gyne, hyv, hym⟩
  refine ⟨_, rfl, ⟨(hb.block _ zkx0).trans kx0, (hb.block _ zk0).trans k0⟩, fun hHeld => ?_⟩
  simp only [Act.put, List.setIfInBounds_toArray, List.set_cons_zero, List.set_cons_succ]
  have sz6 := hb.size
  replace B := Rw.next B hb
  replace k0 := (hb.block _ zk0).trans k0
  replace zk0 := Nat.lt_of_lt_of_le zk0 hb.size
  replace r0v := r0v.below hb
  replace r0m := r0m.below hb
  replace hx0v := hx0v.below hb
  replace hx0m := hx0m.below hb
  replace kx0 := (hb.block _ zkx0).trans kx0
  replace zkx0 := Nat.lt_of_lt_of_le zkx0 hb.size
  clear hb
  refine wpAnyH_ready (rs := [3]) (by kernel_rfl) (by simp) (Rg.call2 rfl (by kernel_rfl) 31 (.tmp 22) (.tmp 24) 25 25 (by kernel_rfl) 25 (by kernel_rfl) (.agg #[.slice (some ⟨gx0v, 0, none⟩) V0.length V0.length, .slice (some ⟨gx0m, 0, none⟩) M0.length M0.length]) (.agg #[.slice (some ⟨gyv, 0, none⟩) V0.length V0.length, .slice (some ⟨gym, 0, none⟩) M0.length M0.length]) (by kernel_rfl) (by kernel_rfl) (fun _ => rfl) (Lm.eqMatch_same _ _ _ _ _ _ _ _ _ _ _ _ _ _ _ _ V0 M0 _ hx0v.rd hx0m.rd hyv.rd hym.rd) ?_ AllReadyH.nil)
  rintro e w7 ⟨rfl, hb⟩
  refine ⟨_, rfl, ⟨(hb.block _ zkx0).trans kx0, (hb.block _ zk0).trans k0⟩, fun hHeld => ?_⟩
  simp only [Act.put, List.setIfInBounds_toArray, List.set_cons_zero, List.set_cons_succ]
  have sz7 := hb.size
  replace B := Rw.next B hb
  replace k0 := (hb.block _ zk0).trans k0
  replace zk0 := Nat.lt_of_lt_of_le zk0 hb.size
  replace r0v := r0v.below hb
  replace r0m := r0m.below hb
  replace hx0v := hx0v.below hb
  replace hx0m := hx0m.below hb
  replace kx0 := (hb.block _ zkx0).trans kx0
  replace zkx0 := Nat.lt_of_lt_of_le zkx0 hb.size
  replace hyv := hyv.below hb
  replace hym := hym.below hb
  clear hb
  clear hyv hym
  refine Pq.take (i := 4) (d := some 26) (v := .bool false) rfl (by kernel_rfl) (by kernel_rfl) (by kernel_rfl) (by kernel_rfl) (fun _ _ _ h => h) (Or.inl ⟨by rfl, by intro w hSw; go_simp⟩) hHeld ?_
  simp only [Act.put, List.setIfInBounds_toArray, List.set_cons_zero, List.set_cons_succ]
  refine wpAnyH_done (by kernel_rfl) ?_ _
  obtain ⟨c0v, c0m⟩ := Pm.two k0
  obtain ⟨x0v, x0m⟩ := Pm.two kx0
  go_wp2
  go_ret
  exact ⟨rfl, B⟩

set_option maxRecDepth 100000 in
theorem lifted (os : Os) (started : os.Started) (H : Type) (enc : TypeId × Value → H) :
    ReturnsInHanded {} Try.checked os 13 .any (Rows.fnExactAskedSpec.pre6 enc Try.prog Try.f13 Rows.fnExactAskedRow.domain false) (Rows.fnExactAskedSpec.post enc Try.prog Try.f13 false true false false) := by
  refine returnsInHanded_of_change (C := Try.checked) own started (by kernel_rfl) Try.func13
    (ChangeSpec.witness6 (enc := enc) (C := Try.checked) false ⟨#[], #[.agg #[.slice none 0 0, .slice none 0 0]], []⟩ 8 (by kernel_rfl) (by kernel_rfl) (by kernel_rfl) (by kernel_rfl)) ?_
  intro W base args ds gs before hval0 hW hcnd _
  have hval : ∀ (j : Nat) t v, Try.f13.params[j]? = some t → args[j]? = some v → Value.okWide Try.prog W .any base t v := hval0
  have hW' := hW
  obtain ⟨p, q, hA0, hV, rfl, hfz, hnd⟩ := hW
  have hA : DataW.TrodAll enc Try.prog W 0 (fun _ => true) true Try.f13.params.toList args.toList ds p := hA0
  rw [Try.params13] at hA hval
  obtain ⟨v0, vs0, d0, ds0, p0, q0, hargs, rfl, rfl, h0, r0⟩ := trodAll_cons hA
  obtain ⟨rfl, rfl, rfl⟩ := trodAll_nil r0
  obtain rfl : args = #[v0] := by cases args; simp_all
  obtain ⟨rfl, rfl⟩ := trodVars_none hV
  have k0 := h0
  have lt0 : ∀ x ∈ p0, x.block < W.heap.size := by obtain ⟨m, hm⟩ := k0; exact DataW.trod_lt m _ _ _ hm
  obtain ⟨a0v, n0v, c0v, z0v, a0m, n0m, c0m, z0m, rfl, w0v, w0m⟩ := Lm.open_match (hval 0 40 v0 rfl rfl) h0
  clear hA0 hval0
  refine (walk a0v n0v c0v z0v a0m n0m c0m z0m W w0v w0m).mono fun e W' ⟨he, bel⟩ => ?_
  subst he
  exact ⟨_, rfl, _, _, _, [], _, [], hW', trodAll_mk1 (shut_bool Try.underlying4 _), (trodAll_cons_mk (Below.trod laidOut (by kernel_rfl) (of_decide_eq_true (by kernel_rfl)) k0 bel lt0) trodAll_mk0), rfl, bel.frame _, fun h => by cases h⟩

theorem over : Rows.fnExactAskedRow.holds Try.pinned (OpenSpec.ofChange Rows.fnExactAskedSpec) :=
  OpenClaim.holds_of_wide 13 Try.f13 rfl rfl rfl rfl rfl rfl rfl ⟨rfl, rfl, rfl, rfl, rfl⟩ rfl rfl rfl rfl rfl (by kernel_rfl) Try.func13 (by kernel_rfl)
    (of_decide_eq_true (by kernel_rfl)) (by unfold Func.isWrapper; first | (rw [if_pos (by decide +kernel)]; kernel_rfl) | (rw [if_neg (by decide +kernel)]; exact ⟨rfl, rfl⟩))
    (fun os started H enc _ => lifted os started H enc)

theorem proved : Rows.FnExactAskedSaid := over
end Go.Proofs.Ytbplpfcplpoeiaa.fnExactAsked

namespace Go.Proofs.Ytbplpfcplpoeiaa
theorem FnExactAsked_holds : Rows.FnExactAskedSaid := fnExactAsked.proved
end Go.Proofs.Ytbplpfcplpoeiaa
