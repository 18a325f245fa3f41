/- At every two lists of actions the program and the specification answer the same whether they are right and alike, and the arguments read as before; no condition. -/
import Derived.Test.YtkakdldhinimoaaRows
import Derived.Test.YtkakdldhinimoaaYg
import Derived.WalkKit
import Derived.ProofKit
import Derived.OpenShut
import Derived.ShutString
import Derived.ChangeOld
import Derived.Below
import Derived.Deep.RegionWith
import Derived.Deep.RegionHeld3
namespace Go.Proofs.Ytkakdldhinimoaa.fnExactSameActs
open Go.ChangeShapes Go.WideShapes Go.ChangeAt Go.RowKit
set_option linter.unusedVariables false
set_option linter.unusedSimpArgs false

theorem own : ownKnob Try.prog.godebug = none := by kernel_rfl
theorem laidOut : laidOutB Try.prog = true := by kernel_rfl

set_option maxRecDepth 8000 in
set_option maxHeartbeats 16000000 in
theorem walk (a0 : Option Addr) (n0 c0 : Nat) (z0 : List Yb.A3) (a1 : Option Addr) (n1 c1 : Nat) (z1 : List Yb.A3) (w : World) (w0 : Yb.IsRow w a0 n0 z0) (w1 : Yb.IsRow w a1 n1 z1) :
    Calls Try.prog 6 #[.slice a0 n0 c0, .slice a1 n1 c1] w fun e w' => e = .returned (.bool true) ∧ Below w.heap.size w w' := by
  have mx0 := Yb.isRow_max w0
  have mx1 := Yb.isRow_max w1
  by_cases hbig : 1048576 < n0
  · go_enter Try.func6, Try.ntmps6
    go_wp2_with (go_at_call 16; refine (Yb.sz_big _ _ _ 1048576 _ hbig (Nat.le_refl _) mx0).mono ?_; rintro e wa ⟨rfl, hw⟩; replace hw := hw.symm; subst hw)
    go_ret
    exact ⟨rfl, Below.refl _ _⟩
  obtain ⟨L, hL⟩ : ∃ L : Nat, n0 + L = 1048576 := ⟨1048576 - n0, by omega⟩
  have hLz : (((1048576 : Nat) : Int) - (n0 : Int)) = (L : Int) := by omega
  by_cases hbig1 : L < n1
  · have hp : ¬ ((L : Int) < 0) := by omega
    have t1 : True := trivial
    go_enter Try.func6, Try.ntmps6
    go_wp2_with (go_at_call 16; clear t1; refine (Yb.sz_small _ _ _ 1048576 _ (by omega) (Nat.le_refl _)).mono ?_; rw [hLz]; rintro e wa ⟨rfl, hw⟩; replace hw := hw.symm; subst hw)
    go_wp2_with (go_at_call 16; refine (Yb.sz_big _ _ _ L _ hbig1 (by omega) mx1).mono ?_; rintro e wa ⟨rfl, hw⟩; replace hw := hw.symm; subst hw)
    go_ret
    exact ⟨rfl, Below.refl _ _⟩
  have hp : ¬ ((L : Int) < 0) := by omega
  have hp1 : ¬ (((L : Int) - (n1 : Int)) < 0) := by omega
  obtain ⟨b, off, l, hl, hr⟩ := Yb.rd_of_isRow w0 (by omega)
  subst hl
  obtain ⟨b', off', l', hl', hr'⟩ := Yb.rd_of_isRow w1 (by omega)
  subst hl'
  generalize hR : Yg.sameB l l' = R
  have HR : Hid (Yg.sameB l l' = R) := hR
  clear hR w0 w1
  go_enter Try.func6, Try.ntmps6
  have t1 : True := trivial
  go_wp2_with (go_at_call 16; clear t1; refine (Yb.sz_small _ _ _ 1048576 _ (by omega) (Nat.le_refl _)).mono ?_; rw [hLz]; rintro e wa ⟨rfl, hw⟩; replace hw := hw.symm; subst hw)
  go_wp2_with (go_at_call 16; refine (Yb.sz_small _ _ _ L _ (by omega) (by omega)).mono ?_; rintro e wa ⟨rfl, hw⟩; replace hw := hw.symm; subst hw)
  have t2 : True := trivial
  go_wp2_with (go_at_call 18; clear t2; refine (Yb.toActS_any _ _ _ _ _ _ hr).mono ?_; rintro e w1 ⟨rfl, B1, m1⟩; replace hr := hr.below B1; replace hr' := hr'.below B1)
  have t3 : True := trivial
  go_wp2_with (go_at_call 18; clear t3; refine (Yb.toActS_any _ _ _ _ _ _ hr').mono ?_; rintro e w2 ⟨rfl, B2, m1'⟩; replace hr := hr.below B2; replace hr' := hr'.below B2; replace m1 := m1.below B2; replace B1 := Rw.next B1 B2; clear B2)
  go_wp2_with (go_at_call 23; refine (Yg.sameS _ _ _ _ _ _ _ _ _ _ _ m1.rd m1'.rd).mono ?_; rw [HR.out]; rintro e w2 ⟨rfl, B2⟩; clear m1 m1'; replace B1 := Rw.next B1 B2; replace hr := hr.below B2; replace hr' := hr'.below B2; clear B2)
  have t4 : True := trivial
  go_wp2_with (go_at_call 18; clear t4; refine (Yb.toActS_any _ _ _ _ _ _ hr).mono ?_; rintro e w3 ⟨rfl, B2, m2⟩; replace hr := hr.below B2; replace hr' := hr'.below B2; replace B1 := Rw.next B1 B2; clear B2)
  have t5 : True := trivial
  go_wp2_with (go_at_call 18; clear t5; refine (Yb.toActS_any _ _ _ _ _ _ hr').mono ?_; rintro e w4 ⟨rfl, B2, m2'⟩; replace hr := hr.below B2; replace hr' := hr'.below B2; replace m2 := m2.below B2; replace B1 := Rw.next B1 B2; clear B2)
  go_wp2_with (go_at_call 24; refine (Yg.sameI _ _ _ _ _ _ _ _ _ _ _ m2.rd m2'.rd).mono ?_; rw [HR.out]; rintro e w5 ⟨rfl, B2⟩; replace m2 := m2.below B2; replace m2' := m2'.below B2; replace hr := hr.below B2; replace hr' := hr'.below B2; replace B1 := Rw.next B1 B2; clear B2)
  have t6 : True := trivial
  go_wp2_with (go_at_call 18; clear t6; refine (Yb.toActS_any _ _ _ _ _ _ hr).mono ?_; rintro e w6 ⟨rfl, B2, m3⟩; replace m2 := m2.below B2; replace m2' := m2'.below B2; replace hr' := hr'.below B2; replace B1 := Rw.next B1 B2; clear B2)
  have t7 : True := trivial
  go_wp2_with (go_at_call 20; clear t7; refine (Yb.eqActS_any _ _ _ _ _ _ _ _ _ _ _ m2.rd m3.rd).mono ?_; rw [decide_eq_true rfl]; rintro e w7 ⟨rfl, B2⟩; replace m2' := m2'.below B2; replace hr' := hr'.below B2; replace B1 := Rw.next B1 B2; clear B2 m2 m3)
  have t8 : True := trivial
  go_wp2_with (go_at_call 18; clear t8; refine (Yb.toActS_any _ _ _ _ _ _ hr').mono ?_; rintro e w8 ⟨rfl, B2, m4⟩; replace m2' := m2'.below B2; replace B1 := Rw.next B1 B2; clear B2)
  go_wp2_with (go_at_call 20; refine (Yb.eqActS_any _ _ _ _ _ _ _ _ _ _ _ m2'.rd m4.rd).mono ?_; rw [decide_eq_true rfl]; rintro e w9 ⟨rfl, B2⟩; replace B1 := Rw.next B1 B2)
  go_ret
  exact ⟨rfl, B1⟩

set_option maxRecDepth 100000 in
theorem lifted (os : Os) (started : os.Started) (H : Type) (enc : TypeId × Value → H) :
    ReturnsInHanded {} Try.checked os 6 .any (Rows.fnExactSameActsSpec.pre6 enc Try.prog Try.f6 Rows.fnExactSameActsRow.domain false) (Rows.fnExactSameActsSpec.post enc Try.prog Try.f6 false true false false) := by
  refine returnsInHanded_of_change (C := Try.checked) own started (by kernel_rfl) Try.func6
    (ChangeSpec.witness6 (enc := enc) (C := Try.checked) false ⟨#[], #[.slice none 0 0, .slice none 0 0], []⟩ 8 (by kernel_rfl) (by kernel_rfl) (by kernel_rfl) (by kernel_rfl)) ?_
  intro W base args ds gs before hval0 hW hcnd _
  have hval : ∀ (j : Nat) t v, Try.f6.params[j]? = some t → args[j]? = some v → Value.okWide Try.prog W .any base t v := hval0
  have hW' := hW
  obtain ⟨p, q, hA0, hV, rfl, hfz, hnd⟩ := hW
  have hA : DataW.TrodAll enc Try.prog W 0 (fun _ => true) true Try.f6.params.toList args.toList ds p := hA0
  rw [Try.params6] at hA hval
  obtain ⟨v0, vs0, d0, ds0, p0, q0, hargs, rfl, rfl, h0, r0⟩ := trodAll_cons hA
  obtain ⟨v1, vs1, d1, ds1, p1, q1, rfl, rfl, rfl, h1, r1⟩ := trodAll_cons r0
  obtain ⟨rfl, rfl, rfl⟩ := trodAll_nil r1
  obtain rfl : args = #[v0, v1] := by cases args; simp_all
  obtain ⟨rfl, rfl⟩ := trodVars_none hV
  have k0 := h0
  have lt0 : ∀ x ∈ p0, x.block < W.heap.size := by obtain ⟨m, hm⟩ := k0; exact DataW.trod_lt m _ _ _ hm
  obtain ⟨a0, n0, c0, rfl⟩ := okWide_slice Try.underlying26 (hval 0 26 v0 rfl rfl)
  obtain ⟨z0, w0⟩ := Yb.open_acts h0
  have k1 := h1
  have lt1 : ∀ x ∈ p1, x.block < W.heap.size := by obtain ⟨m, hm⟩ := k1; exact DataW.trod_lt m _ _ _ hm
  obtain ⟨a1, n1, c1, rfl⟩ := okWide_slice Try.underlying26 (hval 1 26 v1 rfl rfl)
  obtain ⟨z1, w1⟩ := Yb.open_acts h1
  clear hA0 hval0
  refine (walk a0 n0 c0 z0 a1 n1 c1 z1 W w0 w1).mono fun e W' ⟨he, bel⟩ => ?_
  subst he
  exact ⟨_, rfl, _, _, _, [], _, [], hW', trodAll_mk1 (shut_bool Try.underlying4 _), (trodAll_cons_mk (Below.trod laidOut (by kernel_rfl) (of_decide_eq_true (by kernel_rfl)) k0 bel lt0) (trodAll_cons_mk (Below.trod laidOut (by kernel_rfl) (of_decide_eq_true (by kernel_rfl)) k1 bel lt1) trodAll_mk0)), rfl, bel.frame _, fun h => by cases h⟩

theorem over : Rows.fnExactSameActsRow.holds Try.pinned (OpenSpec.ofChange Rows.fnExactSameActsSpec) :=
  OpenClaim.holds_of_wide 6 Try.f6 rfl rfl rfl rfl rfl rfl rfl ⟨rfl, rfl, rfl, rfl, rfl⟩ rfl rfl rfl rfl rfl (by kernel_rfl) Try.func6 (by kernel_rfl)
    (of_decide_eq_true (by kernel_rfl)) (by unfold Func.isWrapper; first | (rw [if_pos (by decide +kernel)]; kernel_rfl) | (rw [if_neg (by decide +kernel)]; exact ⟨rfl, rfl⟩))
    (fun os started H enc _ => lifted os started H enc)

theorem proved : Rows.FnExactSameActsSaid := over
end Go.Proofs.Ytkakdldhinimoaa.fnExactSameActs

namespace Go.Proofs.Ytkakdldhinimoaa
theorem FnExactSameActs_holds : Rows.FnExactSameActsSaid := fnExactSameActs.proved
end Go.Proofs.Ytkakdldhinimoaa
