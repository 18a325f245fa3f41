/- At every field, number and count the program and the specification answer the same, in memory of its own; no condition. -/
import Derived.Test.YtbplpfcplpoeiaaRows
import Derived.Test.YtbplpfcplpoeiaaLm
import Derived.Test.YtbplpfcplpoeiaaLi
import Derived.WalkKit
import Derived.ProofKit
import Derived.OpenShut
import Derived.ShutString
import Derived.ChangeOld
import Derived.Below
namespace Go.Proofs.Ytbplpfcplpoeiaa.fnExactMatchBits
open Go.ChangeShapes Go.WideShapes Go.ChangeAt Go.RowKit
set_option linter.unusedVariables false
set_option linter.unusedSimpArgs false

theorem own : ownKnob Try.prog.godebug = none := by kernel_rfl
theorem laidOut : laidOutB Try.prog = true := by kernel_rfl

set_option maxHeartbeats 8000000 in
theorem walk (f v n : Int) (w : World) :
    Calls Try.prog 8 #[.int .i64 f, .int .i64 v, .int .i64 n] w fun e w' => e = .returned (.bool true) ∧ Below w.heap.size w w' := by
  obtain ⟨R, LV, LM, hI, hS⟩ := Li.bitsR f v n
  have HI : Hid (∀ w, Calls Try.prog 23 #[.int .i64 f, .int .i64 v, .int .i64 n] w (Pm.ResMB w R LV LM)) := hI
  have HS : Hid (∀ w, Calls Try.prog 24 #[.int .i64 f, .int .i64 v, .int .i64 n] w (Pm.ResMB w R LV LM)) := hS
  clear hI hS
  have B := Below.refl w.heap.size w
  have sy0 : w.heap.size ≤ w.heap.size := Nat.le_refl _
  go_enter Try.func8, Try.ntmps8
  have tk1 : True := trivial
  go_wp2_with (go_at_call 24; clear tk1; refine (HS.out _).mono ?_; rintro e w1 ⟨sa, sv, sc, sb, sm, sd, rfl, hsv, hsm, slv, slm, sne, hb⟩; have sz1 := hb.size; replace B := Rw.next B hb; clear hb; have ltsv := Hr.wt_lt hsv; have ltsm := Hr.wt_lt hsm; have BX := Pl.below_alloc1 w1 (.cells #[.slice sa LV.length sc, .slice sb LM.length sd] 25); replace B := Rw.next B BX; replace hsv := hsv.below BX; replace hsm := hsm.below BX; have ks : (w1.alloc (.cells #[.slice sa LV.length sc, .slice sb LM.length sd] 25)).heap[w1.heap.size]? = some (.cells #[.slice sa LV.length sc, .slice sb LM.length sd] 25 (0, 0)) := Pl.at_new rfl; have zks : w1.heap.size < (w1.alloc (.cells #[.slice sa LV.length sc, .slice sb LM.length sd] 25)).heap.size := (by simp); have syks := zks; clear BX; obtain ⟨csv, csm⟩ := Pm.two ks)
  have tk2 : True := trivial
  go_wp2_with (go_at_call 23; clear tk2; refine (HI.out _).mono ?_; rintro e w2 ⟨ga, gv, gc, gb, gm, gd, rfl, hgv, hgm, glv, glm, gne, hb⟩; have sz2 := hb.size; clear csv csm; replace B := Rw.next B hb; replace hsv := hsv.below hb; replace hsm := hsm.below hb; replace ks := (hb.block _ zks).trans ks; replace zks := Nat.lt_of_lt_of_le zks hb.size; clear hb; have ltgv := Hr.wt_lt hgv; have ltgm := Hr.wt_lt hgm; have BX := Pl.below_alloc1 w2 (.cells #[.slice ga LV.length gc, .slice gb LM.length gd] 25); replace B := Rw.next B BX; replace hsv := hsv.below BX; replace hsm := hsm.below BX; replace ks := (BX.block _ zks).trans ks; replace zks := Nat.lt_of_lt_of_le zks BX.size; replace hgv := hgv.below BX; replace hgm := hgm.below BX; have kg : (w2.alloc (.cells #[.slice ga LV.length gc, .slice gb LM.length gd] 25)).heap[w2.heap.size]? = some (.cells #[.slice ga LV.length gc, .slice gb LM.length gd] 25 (0, 0)) := Pl.at_new rfl; have zkg : w2.heap.size < (w2.alloc (.cells #[.slice ga LV.length gc, .slice gb LM.length gd] 25)).heap.size := (by simp); have sykg := zkg; clear BX; obtain ⟨csv, csm⟩ := Pm.two ks; obtain ⟨cgv, cgm⟩ := Pm.two kg)
  have tk3 : True := trivial
  go_wp2_with (go_at_call 31; clear tk3; refine (Lm.eqMatch_same _ _ _ _ _ _ _ _ _ _ _ _ _ _ _ _ LV LM _ hgv.rd hgm.rd hsv.rd hsm.rd).mono ?_; rintro e w3 ⟨rfl, hb⟩; have sz3 := hb.size; clear csv csm cgv cgm; replace B := Rw.next B hb; replace hsv := hsv.below hb; replace hsm := hsm.below hb; replace ks := (hb.block _ zks).trans ks; replace zks := Nat.lt_of_lt_of_le zks hb.size; replace hgv := hgv.below hb; replace hgm := hgm.below hb; replace kg := (hb.block _ zkg).trans kg; replace zkg := Nat.lt_of_lt_of_le zkg hb.size; clear hb; obtain ⟨csv, csm⟩ := Pm.two ks; obtain ⟨cgv, cgm⟩ := Pm.two kg)
  have tk4 : True := trivial
  go_wp2_with (go_at_call 33; clear tk4; refine (Lm.markM_any 1 (by omega) (by omega) _ _ _ _ _ _ _ _ _ hgv hgm gne).mono ?_; rintro e w4 ⟨rfl, hk, hNv, hNm⟩; have sz4 := hk.size; clear csv csm cgv cgm; replace B := Mf.Kept2.below B B.size hk (by omega) (by omega); replace hsv := hk.wt hsv (by omega); replace hsm := hk.wt hsm (by omega); replace ks := (hk.block _ zks (by omega) (by omega)).trans ks; replace zks := Nat.lt_of_lt_of_le zks hk.size; replace kg := (hk.block _ zkg (by omega) (by omega)).trans kg; replace zkg := Nat.lt_of_lt_of_le zkg hk.size; clear hk hgv hgm; obtain ⟨csv, csm⟩ := Pm.two ks; obtain ⟨cgv, cgm⟩ := Pm.two kg)
  have hq0 : ¬ (1 + (LV.length : Int) + (LM.length : Int) < 0) := by omega
  have tk5 : True := trivial
  go_wp2_with (go_at_call 34; clear tk5; refine (Lm.heldM_any 1 (by omega) (by omega) _ _ _ _ _ _ _ _ _ hNv hNm).mono ?_; rintro e w5 ⟨rfl, hb⟩; have sz5 := hb.size; clear csv csm cgv cgm; replace B := Rw.next B hb; replace hsv := hsv.below hb; replace hsm := hsm.below hb; replace ks := (hb.block _ zks).trans ks; replace zks := Nat.lt_of_lt_of_le zks hb.size; replace kg := (hb.block _ zkg).trans kg; replace zkg := Nat.lt_of_lt_of_le zkg hb.size; replace hNv := hNv.below hb; replace hNm := hNm.below hb; clear hb; obtain ⟨csv, csm⟩ := Pm.two ks; obtain ⟨cgv, cgm⟩ := Pm.two kg)
  have tk6 : True := trivial
  go_wp2_with (go_at_call 23; clear tk6; refine (HI.out _).mono ?_; rintro e w6 ⟨ta, tv, tc, tb, tm, td, rfl, htv, htm, tlv, tlm, tne, hb⟩; have sz6 := hb.size; clear csv csm cgv cgm; replace B := Rw.next B hb; replace hsv := hsv.below hb; replace hsm := hsm.below hb; replace ks := (hb.block _ zks).trans ks; replace zks := Nat.lt_of_lt_of_le zks hb.size; replace kg := (hb.block _ zkg).trans kg; replace zkg := Nat.lt_of_lt_of_le zkg hb.size; replace hNv := hNv.below hb; replace hNm := hNm.below hb; clear hb; have lttv := Hr.wt_lt htv; have lttm := Hr.wt_lt htm; have BX := Pl.below_alloc1 w6 (.cells #[.slice ta LV.length tc, .slice tb LM.length td] 25); replace B := Rw.next B BX; replace hsv := hsv.below BX; replace hsm := hsm.below BX; replace ks := (BX.block _ zks).trans ks; replace zks := Nat.lt_of_lt_of_le zks BX.size; replace kg := (BX.block _ zkg).trans kg; replace zkg := Nat.lt_of_lt_of_le zkg BX.size; replace hNv := hNv.below BX; replace hNm := hNm.below BX; replace htv := htv.below BX; replace htm := htm.below BX; have kt : (w6.alloc (.cells #[.slice ta LV.length tc, .slice tb LM.length td] 25)).heap[w6.heap.size]? = some (.cells #[.slice ta LV.length tc, .slice tb LM.length td] 25 (0, 0)) := Pl.at_new rfl; have zkt : w6.heap.size < (w6.alloc (.cells #[.slice ta LV.length tc, .slice tb LM.length td] 25)).heap.size := (by simp); have sykt := zkt; clear BX; obtain ⟨csv, csm⟩ := Pm.two ks; obtain ⟨cgv, cgm⟩ := Pm.two kg; obtain ⟨ctv, ctm⟩ := Pm.two kt)
  have tk7 : True := trivial
  go_wp2_with (go_at_call 31; clear tk7; refine (Lm.eqMatch_same _ _ _ _ _ _ _ _ _ _ _ _ _ _ _ _ LV LM _ htv.rd htm.rd hsv.rd hsm.rd).mono ?_; rintro e w7 ⟨rfl, hb⟩; have sz7 := hb.size; clear csv csm cgv cgm ctv ctm; replace B := Rw.next B hb; replace hsv := hsv.below hb; replace hsm := hsm.below hb; replace ks := (hb.block _ zks).trans ks; replace zks := Nat.lt_of_lt_of_le zks hb.size; replace kg := (hb.block _ zkg).trans kg; replace zkg := Nat.lt_of_lt_of_le zkg hb.size; replace hNv := hNv.below hb; replace hNm := hNm.below hb; replace htv := htv.below hb; replace htm := htm.below hb; replace kt := (hb.block _ zkt).trans kt; replace zkt := Nat.lt_of_lt_of_le zkt hb.size; clear hb; obtain ⟨csv, csm⟩ := Pm.two ks; obtain ⟨cgv, cgm⟩ := Pm.two kg; obtain ⟨ctv, ctm⟩ := Pm.two kt)
  have tk8 : True := trivial
  go_wp2_with (go_at_call 34; clear tk8; refine (Lm.heldM_any 1 (by omega) (by omega) _ _ _ _ _ _ _ _ _ hNv hNm).mono ?_; rintro e w8 ⟨rfl, hb⟩; have sz8 := hb.size; clear csv csm cgv cgm ctv ctm; replace B := Rw.next B hb; replace hsv := hsv.below hb; replace hsm := hsm.below hb; replace ks := (hb.block _ zks).trans ks; replace zks := Nat.lt_of_lt_of_le zks hb.size; replace kg := (hb.block _ zkg).trans kg; replace zkg := Nat.lt_of_lt_of_le zkg hb.size; replace hNv := hNv.below hb; replace hNm := hNm.below hb; replace htv := htv.below hb; replace htm := htm.below hb; replace kt := (hb.block _ zkt).trans kt; replace zkt := Nat.lt_of_lt_of_le zkt hb.size; clear hb; obtain ⟨csv, csm⟩ := Pm.two ks; obtain ⟨cgv, cgm⟩ := Pm.two kg; obtain ⟨ctv, ctm⟩ := Pm.two kt)
  go_ret
  exact ⟨rfl, B⟩

set_option maxRecDepth 100000 in
theorem lifted (os : Os) (started : os.Started) (H : Type) (enc : TypeId × Value → H) :
    ReturnsInHanded {} Try.checked os 8 .any (Rows.fnExactMatchBitsSpec.pre6 enc Try.prog Try.f8 Rows.fnExactMatchBitsRow.domain false) (Rows.fnExactMatchBitsSpec.post enc Try.prog Try.f8 false true false false) := by
  refine returnsInHanded_of_change (C := Try.checked) own started (by kernel_rfl) Try.func8
    (ChangeSpec.witness6 (enc := enc) (C := Try.checked) false ⟨#[], #[.int .i64 0, .int .i64 0, .int .i64 0], []⟩ 8 (by kernel_rfl) (by kernel_rfl) (by kernel_rfl) (by kernel_rfl)) ?_
  intro W base args ds gs before hval0 hW hcnd _
  have hval : ∀ (j : Nat) t v, Try.f8.params[j]? = some t → args[j]? = some v → Value.okWide Try.prog W .any base t v := hval0
  have hW' := hW
  obtain ⟨p, q, hA0, hV, rfl, hfz, hnd⟩ := hW
  have hA : DataW.TrodAll enc Try.prog W 0 (fun _ => true) true Try.f8.params.toList args.toList ds p := hA0
  rw [Try.params8] at hA hval
  obtain ⟨v0, vs0, d0, ds0, p0, q0, hargs, rfl, rfl, h0, r0⟩ := trodAll_cons hA
  obtain ⟨v1, vs1, d1, ds1, p1, q1, rfl, rfl, rfl, h1, r1⟩ := trodAll_cons r0
  obtain ⟨v2, vs2, d2, ds2, p2, q2, rfl, rfl, rfl, h2, r2⟩ := trodAll_cons r1
  obtain ⟨rfl, rfl, rfl⟩ := trodAll_nil r2
  obtain rfl : args = #[v0, v1, v2] := by cases args; simp_all
  obtain ⟨rfl, rfl⟩ := trodVars_none hV
  obtain ⟨a0, rfl, rfl, rfl, w0⟩ := open_int Try.underlying3 (hval 0 3 v0 rfl rfl) h0
  obtain ⟨a1, rfl, rfl, rfl, w1⟩ := open_int Try.underlying3 (hval 1 3 v1 rfl rfl) h1
  obtain ⟨a2, rfl, rfl, rfl, w2⟩ := open_int Try.underlying3 (hval 2 3 v2 rfl rfl) h2
  clear hA0 hval0
  refine (walk a0 a1 a2 W).mono fun e W' ⟨he, bel⟩ => ?_
  subst he
  exact ⟨_, rfl, _, _, _, [], _, [], hW', trodAll_mk1 (shut_bool Try.underlying4 _), (trodAll_cons_mk (shut_int Try.underlying3 w0) (trodAll_cons_mk (shut_int Try.underlying3 w1) (trodAll_cons_mk (shut_int Try.underlying3 w2) trodAll_mk0))), rfl, bel.frame _, fun h => by cases h⟩

theorem over : Rows.fnExactMatchBitsRow.holds Try.pinned (OpenSpec.ofChange Rows.fnExactMatchBitsSpec) :=
  OpenClaim.holds_of_wide 8 Try.f8 rfl rfl rfl rfl rfl rfl rfl ⟨rfl, rfl, rfl, rfl, rfl⟩ rfl rfl rfl rfl rfl (by kernel_rfl) Try.func8 (by kernel_rfl)
    (of_decide_eq_true (by kernel_rfl)) (by unfold Func.isWrapper; first | (rw [if_pos (by decide +kernel)]; kernel_rfl) | (rw [if_neg (by decide +kernel)]; exact ⟨rfl, rfl⟩))
    (fun os started H enc _ => lifted os started H enc)

theorem proved : Rows.FnExactMatchBitsSaid := over
end Go.Proofs.Ytbplpfcplpoeiaa.fnExactMatchBits

namespace Go.Proofs.Ytbplpfcplpoeiaa
theorem FnExactMatchBits_holds : Rows.FnExactMatchBitsSaid := fnExactMatchBits.proved
end Go.Proofs.Ytbplpfcplpoeiaa
