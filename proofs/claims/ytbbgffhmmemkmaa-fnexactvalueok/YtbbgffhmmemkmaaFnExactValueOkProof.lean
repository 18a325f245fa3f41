/- At every value the program and the specification answer the same whether it is right, and the argument reads as before; no condition. -/
import Derived.Test.YtbbgffhmmemkmaaRows
import Derived.Test.YtbbgffhmmemkmaaVp
import Derived.WalkKit
import Derived.ProofKit
import Derived.OpenShut
import Derived.ShutString
import Derived.ChangeOld
import Derived.Below
import Derived.Deep.RegionWith
import Derived.Deep.RegionHeld3
namespace Go.Proofs.Ytbbgffhmmemkmaa.fnExactValueOk
open Go.ChangeShapes Go.WideShapes Go.ChangeAt Go.RowKit
set_option linter.unusedVariables false
set_option linter.unusedSimpArgs false

theorem own : ownKnob Try.prog.godebug = none := by kernel_rfl
theorem laidOut : laidOutB Try.prog = true := by kernel_rfl

set_option maxRecDepth 8000 in
set_option maxHeartbeats 16000000 in
theorem walk (n0 : Int) (s0 : ByteArray) (w : World) (w0 : s0.size ≤ maxLen) :
    Calls Try.prog 3 #[.agg #[.int .i64 n0, .string s0]] w fun e w' => e = .returned (.bool true) ∧ Below w.heap.size w w' := by
  obtain ⟨W0, hW0⟩ : ∃ W0, W0 = w.alloc (.cells #[.int .i64 n0, .string s0] 23) := ⟨_, rfl⟩
  have B0 : Below w.heap.size w W0 := by subst hW0; exact Pl.below_alloc1 _ _
  have k0 : W0.heap[w.heap.size]? = some (.cells #[.int .i64 n0, .string s0] 23 (0, 0)) := by subst hW0; exact Pl.at_new rfl
  by_cases hbig : s0.size ≤ 1048576
  · have hp : ¬ ((1048576 : Int) - (s0.size : Int) < 0) := by omega
    have hZ := fun W => Vl.szV_small n0 s0 1048576 W hbig (Nat.le_refl _)
    have hS := fun W => Vl.ok2S n0 s0 W w0
    have hI := fun W => Vl.ok2I n0 s0 W w0
    generalize Vl.valB (n0, s0) = R at hS hI
    go_enter Try.func3, Try.ntmps3
    go_wp2_with (first
      | (go_at_call 9; rw [← hW0]; clear hW0; refine (hZ _).mono ?_; rintro e w1 ⟨rfl, hb⟩; replace B0 := Rw.next B0 hb; replace k0 := (hb.block _ (Pl.blk_lt k0)).trans k0; clear hb; obtain ⟨p0, p1⟩ := Pl.two k0)
      | (go_at_call 11; refine (Vl.toValue_any _ _ _).mono ?_; rintro e w1 ⟨rfl, hb⟩; clear p0 p1; replace B0 := Rw.next B0 hb; replace k0 := (hb.block _ (Pl.blk_lt k0)).trans k0; clear hb; obtain ⟨p0, p1⟩ := Pl.two k0)
      | (go_at_call 10; refine (hS _).mono ?_; rintro e w1 ⟨rfl, hb⟩; clear p0 p1; replace B0 := Rw.next B0 hb; replace k0 := (hb.block _ (Pl.blk_lt k0)).trans k0; clear hb; obtain ⟨p0, p1⟩ := Pl.two k0)
      | (go_at_call 12; refine (hI _).mono ?_; rintro e w1 ⟨rfl, hb⟩; clear p0 p1; replace B0 := Rw.next B0 hb; replace k0 := (hb.block _ (Pl.blk_lt k0)).trans k0; clear hb; obtain ⟨p0, p1⟩ := Pl.two k0))
    go_ret
    exact ⟨rfl, B0⟩
  · have hZ := fun W => Vl.szV_big n0 s0 1048576 W (by omega) (Nat.le_refl _) w0
    go_enter Try.func3, Try.ntmps3
    go_wp2_with (go_at_call 9; rw [← hW0]; clear hW0; refine (hZ _).mono ?_; rintro e w1 ⟨rfl, hb⟩)
    go_ret
    exact ⟨rfl, Rw.next B0 hb⟩

set_option maxRecDepth 100000 in
theorem lifted (os : Os) (started : os.Started) (H : Type) (enc : TypeId × Value → H) :
    ReturnsInHanded {} Try.checked os 3 .any (Rows.fnExactValueOkSpec.pre6 enc Try.prog Try.f3 Rows.fnExactValueOkRow.domain false) (Rows.fnExactValueOkSpec.post enc Try.prog Try.f3 false true false false) := by
  refine returnsInHanded_of_change (C := Try.checked) own started (by kernel_rfl) Try.func3
    (ChangeSpec.witness6 (enc := enc) (C := Try.checked) false ⟨#[], #[.agg #[.int .i64 0, .string ByteArray.empty]], []⟩ 8 (by kernel_rfl) (by kernel_rfl) (by kernel_rfl) (by kernel_rfl)) ?_
  intro W base args ds gs before hval0 hW hcnd _
  have hval : ∀ (j : Nat) t v, Try.f3.params[j]? = some t → args[j]? = some v → Value.okWide Try.prog W .any base t v := hval0
  have hW' := hW
  obtain ⟨p, q, hA0, hV, rfl, hfz, hnd⟩ := hW
  have hA : DataW.TrodAll enc Try.prog W 0 (fun _ => true) true Try.f3.params.toList args.toList ds p := hA0
  rw [Try.params3] at hA hval
  obtain ⟨v0, vs0, d0, ds0, p0, q0, hargs, rfl, rfl, h0, r0⟩ := trodAll_cons hA
  obtain ⟨rfl, rfl, rfl⟩ := trodAll_nil r0
  obtain rfl : args = #[v0] := by cases args; simp_all
  obtain ⟨rfl, rfl⟩ := trodVars_none hV
  have k0 := h0
  have lt0 : ∀ x ∈ p0, x.block < W.heap.size := by obtain ⟨m, hm⟩ := k0; exact DataW.trod_lt m _ _ _ hm
  obtain ⟨n0, s0, rfl, w0⟩ := Vl.open_value (hval 0 23 v0 rfl rfl) h0
  clear hA0 hval0
  refine (walk n0 s0 W w0).mono fun e W' ⟨he, bel⟩ => ?_
  subst he
  exact ⟨_, rfl, _, _, _, [], _, [], hW', trodAll_mk1 (shut_bool Try.underlying4 _), (trodAll_cons_mk (Below.trod laidOut (by kernel_rfl) (of_decide_eq_true (by kernel_rfl)) k0 bel lt0) trodAll_mk0), rfl, bel.frame _, fun h => by cases h⟩

theorem over : Rows.fnExactValueOkRow.holds Try.pinned (OpenSpec.ofChange Rows.fnExactValueOkSpec) :=
  OpenClaim.holds_of_wide 3 Try.f3 rfl rfl rfl rfl rfl rfl rfl ⟨rfl, rfl, rfl, rfl, rfl⟩ rfl rfl rfl rfl rfl (by kernel_rfl) Try.func3 (by kernel_rfl)
    (of_decide_eq_true (by kernel_rfl)) (by unfold Func.isWrapper; first | (rw [if_pos (by decide +kernel)]; kernel_rfl) | (rw [if_neg (by decide +kernel)]; exact ⟨rfl, rfl⟩))
    (fun os started H enc _ => lifted os started H enc)

theorem proved : Rows.FnExactValueOkSaid := over
end Go.Proofs.Ytbbgffhmmemkmaa.fnExactValueOk

namespace Go.Proofs.Ytbbgffhmmemkmaa
theorem FnExactValueOk_holds : Rows.FnExactValueOkSaid := fnExactValueOk.proved
end Go.Proofs.Ytbbgffhmmemkmaa
