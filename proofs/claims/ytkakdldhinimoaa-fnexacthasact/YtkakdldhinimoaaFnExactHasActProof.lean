/- At every list of actions and kind the program and the specification answer the same whether there is such an action, and the arguments read as before; no condition. -/
import Derived.Test.YtkakdldhinimoaaRows
import Derived.Test.YtkakdldhinimoaaYg
import Derived.WalkKit
import Derived.ProofKit
import Derived.OpenShut
import Derived.ShutString
import Derived.ChangeOld
import Derived.Below
import Derived.Deep.RegionWith
import Derived.Deep.RegionHeld3
namespace Go.Proofs.Ytkakdldhinimoaa.fnExactHasAct
open Go.ChangeShapes Go.WideShapes Go.ChangeAt Go.RowKit
set_option linter.unusedVariables false
set_option linter.unusedSimpArgs false

theorem own : ownKnob Try.prog.godebug = none := by kernel_rfl
theorem laidOut : laidOutB Try.prog = true := by kernel_rfl

set_option maxRecDepth 8000 in
set_option maxHeartbeats 16000000 in
theorem walk (a0 : Option Addr) (n0 c0 : Nat) (z0 : List Yb.A3) (i1 : Int) (w : World) (w0 : Yb.IsRow w a0 n0 z0) :
    Calls Try.prog 5 #[.slice a0 n0 c0, .int .i64 i1] w fun e w' => e = .returned (.bool true) ∧ Below w.heap.size w w' := by
  have mx := Yb.isRow_max w0
  by_cases hbig : 1048576 < n0
  · go_enter Try.func5, Try.ntmps5
    go_wp2_with (go_at_call 16; refine (Yb.sz_big _ _ _ 1048576 _ hbig (Nat.le_refl _) mx).mono ?_; rintro e wa ⟨rfl, hw⟩; replace hw := hw.symm; subst hw)
    go_ret
    exact ⟨rfl, Below.refl _ _⟩
  obtain ⟨b, off, l, hl, hr⟩ := Yb.rd_of_isRow w0 (by omega)
  subst hl
  have hn : ¬ (((1048576 : Nat) : Int) - (l.length : Int) < 0) := by omega
  generalize hR : Yg.hasB l i1 = R
  have HR : Hid (Yg.hasB l i1 = R) := hR
  clear hR w0
  go_enter Try.func5, Try.ntmps5
  go_wp2_with (go_at_call 16; refine (Yb.sz_small _ _ _ 1048576 _ (by omega) (Nat.le_refl _)).mono ?_; rintro e wa ⟨rfl, hw⟩; replace hw := hw.symm; subst hw)
  have t1 : True := trivial
  go_wp2_with (go_at_call 18; clear t1; refine (Yb.toActS_any _ _ _ _ _ _ hr).mono ?_; rintro e w1 ⟨rfl, B1, m1⟩)
  go_wp2_with (go_at_call 21; refine (Yg.hasS _ _ _ _ _ _ _ m1.rd).mono ?_; rw [HR.out]; rintro e w2 ⟨rfl, B2⟩; clear m1; replace B1 := Rw.next B1 B2; clear B2; replace hr := hr.below B1)
  have t2 : True := trivial
  go_wp2_with (go_at_call 18; clear t2; refine (Yb.toActS_any _ _ _ _ _ _ hr).mono ?_; rintro e w2 ⟨rfl, B2, m2⟩; replace hr := hr.below B2; replace B1 := Rw.next B1 B2)
  go_wp2_with (go_at_call 22; refine (Yg.hasI _ _ _ _ _ _ _ m2.rd).mono ?_; rw [HR.out]; rintro e w3 ⟨rfl, B3⟩; replace m2 := m2.below B3; replace hr := hr.below B3; replace B1 := Rw.next B1 B3)
  have t3 : True := trivial
  go_wp2_with (go_at_call 18; clear t3; refine (Yb.toActS_any _ _ _ _ _ _ hr).mono ?_; rintro e w3 ⟨rfl, B4, m3⟩; replace m2 := m2.below B4; replace B1 := Rw.next B1 B4)
  go_wp2_with (go_at_call 20; refine (Yb.eqActS_any _ _ _ _ _ _ _ _ _ _ _ m2.rd m3.rd).mono ?_; rw [decide_eq_true rfl]; rintro e w4 ⟨rfl, B5⟩; replace B1 := Rw.next B1 B5)
  go_ret
  exact ⟨rfl, B1⟩

set_option maxRecDepth 100000 in
theorem lifted (os : Os) (started : os.Started) (H : Type) (enc : TypeId × Value → H) :
    ReturnsInHanded {} Try.checked os 5 .any (Rows.fnExactHasActSpec.pre6 enc Try.prog Try.f5 Rows.fnExactHasActRow.domain false) (Rows.fnExactHasActSpec.post enc Try.prog Try.f5 false true false false) := by
  refine returnsInHanded_of_change (C := Try.checked) own started (by kernel_rfl) Try.func5
    (ChangeSpec.witness6 (enc := enc) (C := Try.checked) false ⟨#[], #[.slice none 0 0, .int .i64 0], []⟩ 8 (by kernel_rfl) (by kernel_rfl) (by kernel_rfl) (by kernel_rfl)) ?_
  intro W base args ds gs before hval0 hW hcnd _
  have hval : ∀ (j : Nat) t v, Try.f5.params[j]? = some t → args[j]? = some v → Value.okWide Try.prog W .any base t v := hval0
  have hW' := hW
  obtain ⟨p, q, hA0, hV, rfl, hfz, hnd⟩ := hW
  have hA : DataW.TrodAll enc Try.prog W 0 (fun _ => true) true Try.f5.params.toList args.toList ds p := hA0
  rw [Try.params5] at hA hval
  obtain ⟨v0, vs0, d0, ds0, p0, q0, hargs, rfl, rfl, h0, r0⟩ := trodAll_cons hA
  obtain ⟨v1, vs1, d1, ds1, p1, q1, rfl, rfl, rfl, h1, r1⟩ := trodAll_cons r0
  obtain ⟨rfl, rfl, rfl⟩ := trodAll_nil r1
  obtain rfl : args = #[v0, v1] := by cases args; simp_all
  obtain ⟨rfl, rfl⟩ := trodVars_none hV
  have k0 := h0
  have lt0 : ∀ x ∈ p0, x.block < W.heap.size := by obtain ⟨m, hm⟩ := k0; exact DataW.trod_lt m _ _ _ hm
  obtain ⟨a0, n0, c0, rfl⟩ := okWide_slice Try.underlying26 (hval 0 26 v0 rfl rfl)
  obtain ⟨z0, w0⟩ := Yb.open_acts h0
  obtain ⟨i1, rfl, rfl, rfl, w1⟩ := open_int Try.underlying3 (hval 1 3 v1 rfl rfl) h1
  clear hA0 hval0
  refine (walk a0 n0 c0 z0 i1 W w0).mono fun e W' ⟨he, bel⟩ => ?_
  subst he
  exact ⟨_, rfl, _, _, _, [], _, [], hW', trodAll_mk1 (shut_bool Try.underlying4 _), (trodAll_cons_mk (Below.trod laidOut (by kernel_rfl) (of_decide_eq_true (by kernel_rfl)) k0 bel lt0) (trodAll_cons_mk (shut_int Try.underlying3 w1) trodAll_mk0)), rfl, bel.frame _, fun h => by cases h⟩

theorem over : Rows.fnExactHasActRow.holds Try.pinned (OpenSpec.ofChange Rows.fnExactHasActSpec) :=
  OpenClaim.holds_of_wide 5 Try.f5 rfl rfl rfl rfl rfl rfl rfl ⟨rfl, rfl, rfl, rfl, rfl⟩ rfl rfl rfl rfl rfl (by kernel_rfl) Try.func5 (by kernel_rfl)
    (of_decide_eq_true (by kernel_rfl)) (by unfold Func.isWrapper; first | (rw [if_pos (by decide +kernel)]; kernel_rfl) | (rw [if_neg (by decide +kernel)]; exact ⟨rfl, rfl⟩))
    (fun os started H enc _ => lifted os started H enc)

theorem proved : Rows.FnExactHasActSaid := over
end Go.Proofs.Ytkakdldhinimoaa.fnExactHasAct

namespace Go.Proofs.Ytkakdldhinimoaa
theorem FnExactHasAct_holds : Rows.FnExactHasActSaid := fnExactHasAct.proved
end Go.Proofs.Ytkakdldhinimoaa
