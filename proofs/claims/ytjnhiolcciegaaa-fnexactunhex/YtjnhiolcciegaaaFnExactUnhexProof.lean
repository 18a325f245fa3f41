/- For every string the law FnExactUnhex returns true: the program's Unhex answers as the specification's, and its answer owns its memory; no condition. -/
import Derived.Test.YtjnhiolcciegaaaRows
import Derived.Test.YtjnhiolcciegaaaUnspec
import Derived.WalkKit
import Derived.ProofKit
import Derived.OpenShut
import Derived.ShutString
import Derived.Below
namespace Go.Proofs.Ytjnhiolcciegaaa.fnExactUnhex
open Go.ChangeShapes Go.WideShapes Go.ChangeAt Go.RowKit
open Go.ChangeMaps (open_string shut_string)
set_option linter.unusedVariables false      -- a walk need not use every 'w<i>' (that an integer argument fits its kind)

theorem own : ownKnob Try.prog.godebug = none := by kernel_rfl

/-! ### STEP 1: THE WALK: the Go text returns true. 'Grown w w'': the world has at most new blocks (Derived/RowKit3.lean). Part the cases AHEAD of 'go_enter' where a test parts the walk; take each callee by a contract of your own. -/
set_option maxHeartbeats 2000000 in
theorem walk (a0 : ByteArray) (w0 : a0.size ≤ maxLen) (w : World) :
    Calls Try.prog 10 #[.string a0] w fun e w' => e = .returned (.bool true) ∧ Below w.heap.size w w' := by
  by_cases hbig : 1048576 < a0.size
  · have hbz : (1048576 : Int) < (a0.size : Int) := by omega
    go_enter Try.func10, Try.ntmps10
    go_wp2
    go_ret
    exact ⟨rfl, Below.refl _ _⟩
  · have hbz : ¬ (1048576 : Int) < (a0.size : Int) := by omega
    go_enter Try.func10, Try.ntmps10
    go_wp2_with (go_at_call 30; refine (Un.specUnhex_any _ _ w0).mono ?_; rintro e w1 ⟨aS, gS, cS, rfl, hwS, hgS, hb1⟩)
    go_wp2_with (go_at_call 13; refine (Un.implUnhex_any _ _ w0).mono ?_; rintro e w2 ⟨aG, gG, cG, rfl, hwG, hgG, hb2⟩)
    have hrS := hwS.rd
    have hltS : (Un.unl a0).length = 0 ∨ gS < w1.heap.size := by
      rcases Nat.eq_zero_or_pos (Un.unl a0).length with h | h
      · exact .inl h
      · exact .inr (World.block_lt_of_cell? _ _ (hwS.cell 0 h))
    have hrS2 := hrS.below hb2
    go_wp2_with (go_at_call 21; refine (Rw.eqByteS_any _ _ _ _ _ _ _ _ _ _ _ hwG.rd hrS2).mono ?_; rw [decide_eq_true rfl]; rintro e w3 ⟨rfl, hb3⟩)
    have hwG3 := hwG.below hb3
    have hrS3 := hrS2.below hb3
    go_wp2_with (go_at_call 22; refine (Mk.mark_any _ _ _ _ _ hwG3).mono ?_; rintro e w4 ⟨rfl, hon4, hwG4⟩)
    have hrS4 : Rw.Rd w4 aS gS 0 (Un.unl a0) := by
      rcases hltS with h | h
      · have e : Un.unl a0 = [] := List.eq_nil_of_length_eq_zero h
        rw [e]; exact (Mk.Wt.nil _ _ _).rd
      · exact hon4.rd hrS3 (by omega)
    have hb4 : Below w.heap.size w w4 := hon4.below (Rw.next (Rw.next hb1 hb2) hb3) (Rw.next (Rw.next hb1 hb2) hb3).size (by have := hb1.size; omega)
    have hq0 : ¬ (1 + ((Un.unl a0).length : Int) < 0) := by omega
    go_wp2_with (go_at_call 23; refine (Mk.held_any _ _ _ _ _ hwG4).mono ?_; rintro e w' ⟨rfl, rfl⟩)
    go_wp2_with (go_at_call 13; refine (Un.implUnhex_any _ _ w0).mono ?_; rintro e w5 ⟨aH, gH, cH, rfl, hwH, hgH, hb5⟩)
    have hrS5 := hrS4.below hb5
    have hwG5 := hwG4.below hb5
    go_wp2_with (go_at_call 21; refine (Rw.eqByteS_any _ _ _ _ _ _ _ _ _ _ _ hwH.rd hrS5).mono ?_; rw [decide_eq_true rfl]; rintro e w6 ⟨rfl, hb6⟩)
    have hwG6 := hwG5.below hb6
    go_wp2_with (go_at_call 23; refine (Mk.held_any _ _ _ _ _ hwG6).mono ?_; rintro e w' ⟨rfl, rfl⟩)
    go_ret
    exact ⟨rfl, Rw.next (Rw.next hb4 hb5) hb6⟩

/-! ### THE ROW's STEP: WRITTEN OUT: LEAVE IT -/
set_option maxRecDepth 100000 in
theorem lifted (os : Os) (started : os.Started) (H : Type) (enc : TypeId × Value → H) :
    ReturnsInHanded {} Try.checked os 10 .any (Rows.fnExactUnhexSpec.pre6 enc Try.prog Try.f10 Rows.fnExactUnhexRow.domain false) (Rows.fnExactUnhexSpec.post enc Try.prog Try.f10 false true false false) := by
  refine returnsInHanded_of_change (C := Try.checked) own started (by kernel_rfl) Try.func10
    (ChangeSpec.witness6 (enc := enc) (C := Try.checked) false ⟨#[], #[.string ByteArray.empty], []⟩ 8 (by kernel_rfl) (by kernel_rfl) (by kernel_rfl) (by kernel_rfl)) ?_
  intro W base args ds gs before hval0 hW hcnd _
  have hval : ∀ (j : Nat) t v, Try.f10.params[j]? = some t → args[j]? = some v → Value.okWide Try.prog W .any base t v := hval0
  have hW' := hW
  obtain ⟨p, q, hA0, hV, rfl, hfz, hnd⟩ := hW
  have hA : DataW.TrodAll enc Try.prog W 0 (fun _ => true) true Try.f10.params.toList args.toList ds p := hA0
  rw [Try.params10] at hA hval
  obtain ⟨v0, vs0, d0, ds0, p0, q0, hargs, rfl, rfl, h0, r0⟩ := trodAll_cons hA
  obtain ⟨rfl, rfl, rfl⟩ := trodAll_nil r0
  obtain rfl : args = #[v0] := by cases args; simp_all
  obtain ⟨rfl, rfl⟩ := trodVars_none hV
  obtain ⟨a0, rfl, rfl, rfl, w0⟩ := open_string Try.underlying9 (hval 0 9 v0 rfl rfl) h0
  clear hA0 hval0
  simp only [List.append_nil] at hW'
  refine (walk a0 w0 W).mono fun e W' ⟨he, bel⟩ => ?_
  subst he
  exact ⟨_, rfl, _, _, _, [], [], [], hW', (trodAll_cons_mk (shut_bool Try.underlying4 _) trodAll_mk0), (trodAll_cons_mk (shut_string Try.underlying9 w0) trodAll_mk0), rfl, bel.frame _, fun h => by cases h⟩

theorem over : Rows.fnExactUnhexRow.holds Try.pinned (OpenSpec.ofChange Rows.fnExactUnhexSpec) :=
  OpenClaim.holds_of_wide 10 Try.f10 rfl rfl rfl rfl rfl rfl rfl ⟨rfl, rfl, rfl, rfl, rfl⟩ rfl rfl rfl rfl rfl (by kernel_rfl) Try.func10 (by kernel_rfl)
    (of_decide_eq_true (by kernel_rfl)) (by unfold Func.isWrapper; first | (rw [if_pos (by decide +kernel)]; kernel_rfl) | (rw [if_neg (by decide +kernel)]; exact ⟨rfl, rfl⟩))
    (fun os started H enc _ => lifted os started H enc)

/-- ████ THE STATEMENT ████ -/
theorem proved : Rows.FnExactUnhexSaid :=
  over
end Go.Proofs.Ytjnhiolcciegaaa.fnExactUnhex

namespace Go.Proofs.Ytjnhiolcciegaaa
theorem FnExactUnhex_holds : Rows.FnExactUnhexSaid := fnExactUnhex.proved
end Go.Proofs.Ytjnhiolcciegaaa
