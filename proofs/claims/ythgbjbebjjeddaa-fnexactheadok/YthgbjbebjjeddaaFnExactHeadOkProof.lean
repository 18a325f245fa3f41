/- At every head the program and the specification answer the same, the argument reads as before; no condition. -/
import Derived.Test.YthgbjbebjjeddaaRows
import Derived.Test.YthgbjbebjjeddaaLw
import Derived.Test.YthgbjbebjjeddaaHg
import Derived.WalkKit
import Derived.ProofKit
import Derived.OpenShut
import Derived.ShutString
import Derived.ChangeOld
import Derived.Below
import Derived.Deep.RegionWith
import Derived.Deep.RegionHeld3
namespace Go.Proofs.Ythgbjbebjjeddaa.fnExactHeadOk
open Go.ChangeShapes Go.WideShapes Go.ChangeAt Go.RowKit
set_option linter.unusedVariables false

theorem own : ownKnob Try.prog.godebug = none := by kernel_rfl
theorem laidOut : laidOutB Try.prog = true := by kernel_rfl

set_option maxHeartbeats 4000000 in
theorem walk (a0 : Option Addr) (len0 cap0 : Nat) (z0 : List Int) (w : World) (w0 : Rw.IsRow .i64 w a0 len0 cap0 z0) :
    Calls Try.prog 5 #[.agg #[.slice a0 len0 cap0]] w fun e w' => e = .returned (.bool true) ∧ Below w.heap.size w w' := by
  by_cases hbig : 1048576 < len0
  · have hm := Hr.isRow_max w0
    go_enter Try.func5, Try.ntmps5
    go_wp2_with (go_at_call 19; refine (Hh.sz_big _ _ _ _ hbig hm).mono ?_; rintro e wa ⟨rfl, hba⟩)
    go_ret
    exact ⟨rfl, Rw.next (Pl.below_alloc1 _ _) hba⟩
  · obtain ⟨b, off, l, hl, hr⟩ := Hr.rd_of_isRow w0 (by omega)
    subst hl
    clear w0

    have hsm : l.length ≤ 1048576 := by omega
    have h0 : ¬ (1048576 - (l.length : Int) < 0) := by omega
    have hltb := Hr.rd_lt hr
    obtain ⟨W0, hW0⟩ : ∃ W0, W0 = w.alloc (.cells #[.slice a0 l.length cap0] 49) := ⟨_, rfl⟩
    have B : Below w.heap.size w W0 := by subst hW0; exact Pl.below_alloc1 _ _
    have k : W0.heap[w.heap.size]? = some (.cells #[.slice a0 l.length cap0] 49 (0, 0)) := by subst hW0; exact Pl.at_new rfl
    have z : w.heap.size < W0.heap.size := by subst hW0; simp
    replace hr := hr.below B
    go_enter Try.func5, Try.ntmps5
    go_wp2_with (go_at_call 19; rw [← hW0]; refine (Hh.sz_small _ _ _ _ hsm).mono ?_; rintro e wa ⟨rfl, hb⟩; replace B := Rw.next B hb; replace k := (hb.block _ z).trans k; replace z := Nat.lt_of_lt_of_le z hb.size; replace hr := hr.below hb; clear hb; have c0 := Hh.one k)
    go_wp2_with (go_at_call 21; refine (Hh.toHead_any _ _ _ _ _ _ hr).mono ?_; rintro e wb ⟨g1, rfl, hb, hg1, hm1⟩; clear c0; replace B := Rw.next B hb; replace k := (hb.block _ z).trans k; replace z := Nat.lt_of_lt_of_le z hb.size; replace hr := hr.below hb; clear hb; have c0 := Hh.one k)
    go_wp2_with (go_at_call 20; refine (Hg.specOk_any _ _ _ _ _ _ hm1.rd).mono ?_; rintro e wc ⟨rfl, hb⟩; clear c0; replace B := Rw.next B hb; replace k := (hb.block _ z).trans k; replace z := Nat.lt_of_lt_of_le z hb.size; replace hr := hr.below hb; clear hb; have c0 := Hh.one k)
    clear hm1
    go_wp2_with (go_at_call 21; refine (Hh.toHead_any _ _ _ _ _ _ hr).mono ?_; rintro e wd ⟨gX, rfl, hb, hgX, hmX⟩; have sz2 := hb.size; clear c0; replace B := Rw.next B hb; replace k := (hb.block _ z).trans k; replace z := Nat.lt_of_lt_of_le z hb.size; replace hr := hr.below hb; clear hb; have BX := Pl.below_alloc1 wd (.cells #[.slice (some ⟨gX, 0, none⟩) l.length l.length] 43); replace B := Rw.next B BX; replace k := (BX.block _ z).trans k; replace z := Nat.lt_of_lt_of_le z BX.size; replace hr := hr.below BX; replace hmX := hmX.below BX; have kX : (wd.alloc (.cells #[.slice (some ⟨gX, 0, none⟩) l.length l.length] 43)).heap[wd.heap.size]? = some (.cells #[.slice (some ⟨gX, 0, none⟩) l.length l.length] 43 (0, 0)) := Pl.at_new rfl; have zX : wd.heap.size < (wd.alloc (.cells #[.slice (some ⟨gX, 0, none⟩) l.length l.length] 43)).heap.size := (by simp); clear BX; have c0 := Hh.one k; have x0 := Hh.one kX)
    go_wp2_with (go_at_call 22; refine (Hg.implOk_any _ _ _ _ _ _ hmX.rd).mono ?_; rintro e we ⟨rfl, hb⟩; clear c0 x0; replace B := Rw.next B hb; replace k := (hb.block _ z).trans k; replace z := Nat.lt_of_lt_of_le z hb.size; replace hr := hr.below hb; replace hmX := hmX.below hb; replace kX := (hb.block _ zX).trans kX; replace zX := Nat.lt_of_lt_of_le zX hb.size; clear hb; have c0 := Hh.one k; have x0 := Hh.one kX)
    go_region_held3 (fun w' => w'.cell? ⟨wd.heap.size, 0, none⟩ = some (.slice (some ⟨gX, 0, none⟩) l.length l.length) ∧ w'.cell? ⟨w.heap.size, 0, none⟩ = some (.slice a0 l.length cap0)) (go_keep) (first | (go_at_call 21; refine (Hh.toHead_any _ _ _ _ _ _ (hr.below ((Below.refl _ _).drew))).mono ?_; rintro e wg ⟨gY, rfl, hb0, hgY, hmY⟩; have hb := Rw.next ((Below.refl _ _).drew) hb0; clear c0 x0; replace B := Rw.next B hb; replace k := (hb.block _ z).trans k; replace z := Nat.lt_of_lt_of_le z hb.size; replace hr := hr.below hb; replace hmX := hmX.below hb; replace kX := (hb.block _ zX).trans kX; replace zX := Nat.lt_of_lt_of_le zX hb.size; clear hb hb0; have c0 := Hh.one k; have x0 := Hh.one kX) | (go_at_call 23; refine (Hh.eqHead_same _ _ _ _ _ _ _ _ l _ hmX.rd hmY.rd).mono ?_; rintro e wh ⟨rfl, hb⟩; have sz5 := hb.size; clear c0 x0; replace B := Rw.next B hb; replace k := (hb.block _ z).trans k; replace z := Nat.lt_of_lt_of_le z hb.size; replace hr := hr.below hb; replace hmX := hmX.below hb; replace kX := (hb.block _ zX).trans kX; replace zX := Nat.lt_of_lt_of_le zX hb.size; replace hmY := hmY.below hb; clear hb; have c0 := Hh.one k; have x0 := Hh.one kX))
    go_wp2
    go_ret
    exact ⟨rfl, B⟩

set_option maxRecDepth 100000 in
theorem lifted (os : Os) (started : os.Started) (H : Type) (enc : TypeId × Value → H) :
    ReturnsInHanded {} Try.checked os 5 .any (Rows.fnExactHeadOkSpec.pre6 enc Try.prog Try.f5 Rows.fnExactHeadOkRow.domain false) (Rows.fnExactHeadOkSpec.post enc Try.prog Try.f5 false true false false) := by
  refine returnsInHanded_of_change (C := Try.checked) own started (by kernel_rfl) Try.func5
    (ChangeSpec.witness6 (enc := enc) (C := Try.checked) false ⟨#[], #[.agg #[.slice none 0 0]], []⟩ 8 (by kernel_rfl) (by kernel_rfl) (by kernel_rfl) (by kernel_rfl)) ?_
  intro W base args ds gs before hval0 hW hcnd _
  have hval : ∀ (j : Nat) t v, Try.f5.params[j]? = some t → args[j]? = some v → Value.okWide Try.prog W .any base t v := hval0
  have hW' := hW
  obtain ⟨p, q, hA0, hV, rfl, hfz, hnd⟩ := hW
  have hA : DataW.TrodAll enc Try.prog W 0 (fun _ => true) true Try.f5.params.toList args.toList ds p := hA0
  rw [Try.params5] at hA hval
  obtain ⟨v0, vs0, d0, ds0, p0, q0, hargs, rfl, rfl, h0, r0⟩ := trodAll_cons hA
  obtain ⟨rfl, rfl, rfl⟩ := trodAll_nil r0
  obtain rfl : args = #[v0] := by cases args; simp_all
  obtain ⟨rfl, rfl⟩ := trodVars_none hV
  have k0 := h0
  have lt0 : ∀ x ∈ p0, x.block < W.heap.size := by obtain ⟨m, hm⟩ := k0; exact DataW.trod_lt m _ _ _ hm
  obtain ⟨a0, len0, cap0, z0, rfl, w0⟩ := Hh.open_head (hval 0 49 v0 rfl rfl) h0
  clear hA0 hval0
  refine (walk  a0 len0 cap0 z0 W w0).mono fun e W' ⟨he, bel⟩ => ?_
  subst he
  exact ⟨_, rfl, _, _, _, [], _, [], hW', trodAll_mk1 (shut_bool Try.underlying4 _), (trodAll_cons_mk (Below.trod laidOut (by kernel_rfl) (of_decide_eq_true (by kernel_rfl)) k0 bel lt0) trodAll_mk0), rfl, bel.frame _, fun h => by cases h⟩

theorem over : Rows.fnExactHeadOkRow.holds Try.pinned (OpenSpec.ofChange Rows.fnExactHeadOkSpec) :=
  OpenClaim.holds_of_wide 5 Try.f5 rfl rfl rfl rfl rfl rfl rfl ⟨rfl, rfl, rfl, rfl, rfl⟩ rfl rfl rfl rfl rfl (by kernel_rfl) Try.func5 (by kernel_rfl)
    (of_decide_eq_true (by kernel_rfl)) (by unfold Func.isWrapper; first | (rw [if_pos (by decide +kernel)]; kernel_rfl) | (rw [if_neg (by decide +kernel)]; exact ⟨rfl, rfl⟩))
    (fun os started H enc _ => lifted os started H enc)

theorem proved : Rows.FnExactHeadOkSaid := over
end Go.Proofs.Ythgbjbebjjeddaa.fnExactHeadOk

namespace Go.Proofs.Ythgbjbebjjeddaa
theorem FnExactHeadOk_holds : Rows.FnExactHeadOkSaid := fnExactHeadOk.proved
end Go.Proofs.Ythgbjbebjjeddaa
