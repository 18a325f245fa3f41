/- At every three integers the program and the specification answer the same head, in memory of its own; no condition. -/
import Derived.Test.YthgbjbebjjeddaaRows
import Derived.Test.YthgbjbebjjeddaaLw
import Derived.Test.YthgbjbebjjeddaaHs
import Derived.WalkKit
import Derived.ProofKit
import Derived.OpenShut
import Derived.ShutString
import Derived.Below
namespace Go.Proofs.Ythgbjbebjjeddaa.fnExactSmallHead
open Go.ChangeShapes Go.WideShapes Go.ChangeAt Go.RowKit
open Go.ChangeMaps (open_string shut_string)
set_option linter.unusedVariables false      -- a walk need not use every 'w<i>' (that an integer argument fits its kind)

theorem own : ownKnob Try.prog.godebug = none := by kernel_rfl

/-! ### STEP 1: THE WALK: the Go text returns true. 'Grown w w'': the world has at most new blocks (Derived/RowKit3.lean). Part the cases AHEAD of 'go_enter' where a test parts the walk; take each callee by a contract of your own. -/
set_option maxHeartbeats 2000000 in
theorem walk (a0 : Int) (a1 : Int) (a2 : Int) (w0 : (Lit.int .i64 a0).wf = true) (w1 : (Lit.int .i64 a1).wf = true) (w2 : (Lit.int .i64 a2).wf = true) (w : World) :
    Calls Try.prog 8 #[.int .i64 a0, .int .i64 a1, .int .i64 a2] w fun e w' => e = .returned (.bool true) ∧ Below w.heap.size w w' := by
  obtain ⟨L, hI, hS⟩ := Hs.small a0 a1 a2
  have HI : Hid (∀ w, Calls Try.prog 34 #[.int .i64 a0, .int .i64 a1, .int .i64 a2] w (Hs.ResH w L)) := hI
  have HS : Hid (∀ w, Calls Try.prog 33 #[.int .i64 a0, .int .i64 a1, .int .i64 a2] w (Hs.ResH w L)) := hS
  clear hI hS
  have hq0 : ¬ (1 + (L.length : Int) < 0) := by omega
  have B := Below.refl w.heap.size w
  go_enter Try.func8, Try.ntmps8
  go_wp2_with (go_at_call 33; refine (HS.out _).mono ?_; rintro e wc ⟨aS, gS, cS, rfl, hwS, hgS, hb⟩; have sz1 := hb.size; replace B := Rw.next B hb; clear hb; have ltS := Hr.wt_lt hwS; have BX := Pl.below_alloc1 wc (.cells #[.slice aS L.length cS] 43); replace B := Rw.next B BX; replace hwS := hwS.below BX; have kS : (wc.alloc (.cells #[.slice aS L.length cS] 43)).heap[wc.heap.size]? = some (.cells #[.slice aS L.length cS] 43 (0, 0)) := Pl.at_new rfl; have zS : wc.heap.size < (wc.alloc (.cells #[.slice aS L.length cS] 43)).heap.size := (by simp); clear BX; have s_0 := Hh.one kS)
  go_wp2_with (go_at_call 34; refine (HI.out _).mono ?_; rintro e we ⟨aG, gG, cG, rfl, hwG, hgG, hb⟩; have sz3 := hb.size; clear s_0; replace B := Rw.next B hb; replace hwS := hwS.below hb; replace kS := (hb.block _ zS).trans kS; replace zS := Nat.lt_of_lt_of_le zS hb.size; clear hb; have ltG := Hr.wt_lt hwG; have BX := Pl.below_alloc1 we (.cells #[.slice aG L.length cG] 43); replace B := Rw.next B BX; replace hwS := hwS.below BX; replace kS := (BX.block _ zS).trans kS; replace zS := Nat.lt_of_lt_of_le zS BX.size; replace hwG := hwG.below BX; have kG : (we.alloc (.cells #[.slice aG L.length cG] 43)).heap[we.heap.size]? = some (.cells #[.slice aG L.length cG] 43 (0, 0)) := Pl.at_new rfl; have zG : we.heap.size < (we.alloc (.cells #[.slice aG L.length cG] 43)).heap.size := (by simp); clear BX; have s_0 := Hh.one kS; have y_0 := Hh.one kG)
  go_wp2_with (go_at_call 23; refine (Hh.eqHead_same _ _ _ _ _ _ _ _ _ _ hwG.rd hwS.rd).mono ?_; rintro e wf ⟨rfl, hb⟩; have sz4 := hb.size; clear s_0 y_0; replace B := Rw.next B hb; replace hwS := hwS.below hb; replace kS := (hb.block _ zS).trans kS; replace zS := Nat.lt_of_lt_of_le zS hb.size; replace hwG := hwG.below hb; replace kG := (hb.block _ zG).trans kG; replace zG := Nat.lt_of_lt_of_le zG hb.size; clear hb; have s_0 := Hh.one kS; have y_0 := Hh.one kG)
  simp at hgG sz3
  go_wp2_with (go_at_call 29; refine (Hh.markHead_any _ _ _ _ _ hwG).mono ?_; rintro e wk ⟨rfl, ho, h00, hwM⟩; clear s_0 y_0; replace B := Lw.below_of_only B B.size ho h00 (by omega); replace hwS := Hr.wt_onlyN ho h00 hwS (by omega); replace kS := (Lw.k_only ho h00 zS (by omega)).trans kS; replace zS := Nat.lt_of_lt_of_le zS ho.size; replace kG := (Lw.k_only ho h00 zG (by omega)).trans kG; replace zG := Nat.lt_of_lt_of_le zG ho.size; clear ho h00 hwG; have s_0 := Hh.one kS; have y_0 := Hh.one kG)
  go_wp2_with (go_at_call 30; refine (Hh.heldHead_any _ _ _ _ _ hwM).mono ?_; rintro e wl ⟨rfl, hb⟩; clear s_0 y_0; replace B := Rw.next B hb; replace hwS := hwS.below hb; replace kS := (hb.block _ zS).trans kS; replace zS := Nat.lt_of_lt_of_le zS hb.size; replace kG := (hb.block _ zG).trans kG; replace zG := Nat.lt_of_lt_of_le zG hb.size; replace hwM := hwM.below hb; clear hb; have s_0 := Hh.one kS; have y_0 := Hh.one kG)
  go_wp2_with (go_at_call 34; refine (HI.out _).mono ?_; rintro e wn ⟨aH, gH, cH, rfl, hwH, hgH, hb⟩; clear s_0 y_0; replace B := Rw.next B hb; replace hwS := hwS.below hb; replace kS := (hb.block _ zS).trans kS; replace zS := Nat.lt_of_lt_of_le zS hb.size; replace kG := (hb.block _ zG).trans kG; replace zG := Nat.lt_of_lt_of_le zG hb.size; replace hwM := hwM.below hb; clear hb; have BX := Pl.below_alloc1 wn (.cells #[.slice aH L.length cH] 43); replace B := Rw.next B BX; replace hwS := hwS.below BX; replace kS := (BX.block _ zS).trans kS; replace zS := Nat.lt_of_lt_of_le zS BX.size; replace kG := (BX.block _ zG).trans kG; replace zG := Nat.lt_of_lt_of_le zG BX.size; replace hwM := hwM.below BX; replace hwH := hwH.below BX; have kH : (wn.alloc (.cells #[.slice aH L.length cH] 43)).heap[wn.heap.size]? = some (.cells #[.slice aH L.length cH] 43 (0, 0)) := Pl.at_new rfl; have zH : wn.heap.size < (wn.alloc (.cells #[.slice aH L.length cH] 43)).heap.size := (by simp); clear BX; have s_0 := Hh.one kS; have y_0 := Hh.one kG; have q_0 := Hh.one kH)
  go_wp2_with (go_at_call 23; refine (Hh.eqHead_same _ _ _ _ _ _ _ _ _ _ hwH.rd hwS.rd).mono ?_; rintro e wo ⟨rfl, hb⟩; clear s_0 y_0 q_0; replace B := Rw.next B hb; replace hwS := hwS.below hb; replace kS := (hb.block _ zS).trans kS; replace zS := Nat.lt_of_lt_of_le zS hb.size; replace kG := (hb.block _ zG).trans kG; replace zG := Nat.lt_of_lt_of_le zG hb.size; replace hwM := hwM.below hb; replace hwH := hwH.below hb; replace kH := (hb.block _ zH).trans kH; replace zH := Nat.lt_of_lt_of_le zH hb.size; clear hb; have s_0 := Hh.one kS; have y_0 := Hh.one kG; have q_0 := Hh.one kH)
  go_wp2_with (go_at_call 30; refine (Hh.heldHead_any _ _ _ _ _ hwM).mono ?_; rintro e wp ⟨rfl, hb⟩; clear s_0 y_0 q_0; replace B := Rw.next B hb; replace hwS := hwS.below hb; replace kS := (hb.block _ zS).trans kS; replace zS := Nat.lt_of_lt_of_le zS hb.size; replace kG := (hb.block _ zG).trans kG; replace zG := Nat.lt_of_lt_of_le zG hb.size; replace hwM := hwM.below hb; replace hwH := hwH.below hb; replace kH := (hb.block _ zH).trans kH; replace zH := Nat.lt_of_lt_of_le zH hb.size; clear hb)
  go_ret
  exact ⟨rfl, B⟩


/-! ### THE ROW's STEP: WRITTEN OUT: LEAVE IT -/
set_option maxRecDepth 100000 in
theorem lifted (os : Os) (started : os.Started) (H : Type) (enc : TypeId × Value → H) :
    ReturnsInHanded {} Try.checked os 8 .any (Rows.fnExactSmallHeadSpec.pre6 enc Try.prog Try.f8 Rows.fnExactSmallHeadRow.domain false) (Rows.fnExactSmallHeadSpec.post enc Try.prog Try.f8 false true false false) := by
  refine returnsInHanded_of_change (C := Try.checked) own started (by kernel_rfl) Try.func8
    (ChangeSpec.witness6 (enc := enc) (C := Try.checked) false ⟨#[], #[.int .i64 0, .int .i64 0, .int .i64 0], []⟩ 8 (by kernel_rfl) (by kernel_rfl) (by kernel_rfl) (by kernel_rfl)) ?_
  intro W base args ds gs before hval0 hW hcnd _
  have hval : ∀ (j : Nat) t v, Try.f8.params[j]? = some t → args[j]? = some v → Value.okWide Try.prog W .any base t v := hval0
  have hW' := hW
  obtain ⟨p, q, hA0, hV, rfl, hfz, hnd⟩ := hW
  have hA : DataW.TrodAll enc Try.prog W 0 (fun _ => true) true Try.f8.params.toList args.toList ds p := hA0
  rw [Try.params8] at hA hval
  obtain ⟨v0, vs0, d0, ds0, p0, q0, hargs, rfl, rfl, h0, r0⟩ := trodAll_cons hA
  obtain ⟨v1, vs1, d1, ds1, p1, q1, rfl, rfl, rfl, h1, r1⟩ := trodAll_cons r0
  obtain ⟨v2, vs2, d2, ds2, p2, q2, rfl, rfl, rfl, h2, r2⟩ := trodAll_cons r1
  obtain ⟨rfl, rfl, rfl⟩ := trodAll_nil r2
  obtain rfl : args = #[v0, v1, v2] := by cases args; simp_all
  obtain ⟨rfl, rfl⟩ := trodVars_none hV
  obtain ⟨a0, rfl, rfl, rfl, w0⟩ := open_int Try.underlying3 (hval 0 3 v0 rfl rfl) h0
  obtain ⟨a1, rfl, rfl, rfl, w1⟩ := open_int Try.underlying3 (hval 1 3 v1 rfl rfl) h1
  obtain ⟨a2, rfl, rfl, rfl, w2⟩ := open_int Try.underlying3 (hval 2 3 v2 rfl rfl) h2
  clear hA0 hval0
  simp only [List.append_nil] at hW'
  refine (walk a0 a1 a2 w0 w1 w2 W).mono fun e W' ⟨he, bel⟩ => ?_
  subst he
  exact ⟨_, rfl, _, _, _, [], [], [], hW', (trodAll_cons_mk (shut_bool Try.underlying4 _) trodAll_mk0), (trodAll_cons_mk (shut_int Try.underlying3 w0) (trodAll_cons_mk (shut_int Try.underlying3 w1) (trodAll_cons_mk (shut_int Try.underlying3 w2) trodAll_mk0))), rfl, bel.frame _, fun h => by cases h⟩

theorem over : Rows.fnExactSmallHeadRow.holds Try.pinned (OpenSpec.ofChange Rows.fnExactSmallHeadSpec) :=
  OpenClaim.holds_of_wide 8 Try.f8 rfl rfl rfl rfl rfl rfl rfl ⟨rfl, rfl, rfl, rfl, rfl⟩ rfl rfl rfl rfl rfl (by kernel_rfl) Try.func8 (by kernel_rfl)
    (of_decide_eq_true (by kernel_rfl)) (by unfold Func.isWrapper; first | (rw [if_pos (by decide +kernel)]; kernel_rfl) | (rw [if_neg (by decide +kernel)]; exact ⟨rfl, rfl⟩))
    (fun os started H enc _ => lifted os started H enc)

/-- ████ THE STATEMENT ████ -/
theorem proved : Rows.FnExactSmallHeadSaid :=
  over
end Go.Proofs.Ythgbjbebjjeddaa.fnExactSmallHead

namespace Go.Proofs.Ythgbjbebjjeddaa
theorem FnExactSmallHead_holds : Rows.FnExactSmallHeadSaid := fnExactSmallHead.proved
end Go.Proofs.Ythgbjbebjjeddaa
