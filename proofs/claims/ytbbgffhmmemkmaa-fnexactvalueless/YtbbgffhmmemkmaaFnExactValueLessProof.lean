/- At every two values the program and the specification answer the same whether the one is less, and the arguments read as before; no condition. -/
import Derived.Test.YtbbgffhmmemkmaaRows
import Derived.Test.YtbbgffhmmemkmaaVp
import Derived.WalkKit
import Derived.ProofKit
import Derived.OpenShut
import Derived.ShutString
import Derived.ChangeOld
import Derived.Below
import Derived.Deep.RegionWith
import Derived.Deep.RegionHeld3
namespace Go.Proofs.Ytbbgffhmmemkmaa.fnExactValueLess
open Go.ChangeShapes Go.WideShapes Go.ChangeAt Go.RowKit
set_option linter.unusedVariables false
set_option linter.unusedSimpArgs false

theorem own : ownKnob Try.prog.godebug = none := by kernel_rfl
theorem laidOut : laidOutB Try.prog = true := by kernel_rfl

set_option maxRecDepth 8000 in
set_option maxHeartbeats 16000000 in
theorem walk (n0 : Int) (s0 : ByteArray) (n1 : Int) (s1 : ByteArray) (w : World) (w0 : s0.size ≤ maxLen) (w1 : s1.size ≤ maxLen) :
    Calls Try.prog 4 #[.agg #[.int .i64 n0, .string s0], .agg #[.int .i64 n1, .string s1]] w fun e w' => e = .returned (.bool true) ∧ Below w.heap.size w w' := by
  obtain ⟨W0, hW0⟩ : ∃ W0, W0 = (w.alloc (.cells #[.int .i64 n0, .string s0] 23)).alloc (.cells #[.int .i64 n1, .string s1] 23) := ⟨_, rfl⟩
  have B0 : Below w.heap.size w W0 := by subst hW0; exact Pl.below_alloc2 _ _ _
  have k0 : W0.heap[w.heap.size]? = some (.cells #[.int .i64 n0, .string s0] 23 (0, 0)) := by subst hW0; rw [Pl.at_old (by simp), Pl.at_new rfl]
  have k1 : W0.heap[w.heap.size + 1]? = some (.cells #[.int .i64 n1, .string s1] 23 (0, 0)) := by subst hW0; rw [Pl.at_new (by simp)]
  have t1 : True := trivial
  by_cases hbig : s0.size ≤ 1048576
  · obtain ⟨L, hL⟩ : ∃ L : Nat, L = 1048576 - s0.size := ⟨_, rfl⟩
    have e0 : (1048576 : Int) - (s0.size : Int) = L := by omega
    have hp : ¬ ((L : Int) < 0) := by omega
    have hLl : L ≤ 1048576 := by omega
    have hZ := fun W => Vl.szV_small n0 s0 1048576 W hbig (Nat.le_refl _)
    rw [show (((1048576 : Nat) : Int) - (s0.size : Int)) = L from e0] at hZ
    clear e0 hL
    by_cases hb2 : s1.size ≤ L
    · have hp2 : ¬ ((L : Int) - (s1.size : Int) < 0) := by omega
      have hY := fun W => Vl.szV_small n1 s1 L W hb2 hLl
      have hS := fun W => Vl.lessS_any n0 n1 s0 s1 W w0 w1
      have hI := fun W => Vl.lessI_any n0 n1 s0 s1 W w0 w1
      generalize Vl.vlessB (n0, s0) (n1, s1) = R at hS hI
      go_enter Try.func4, Try.ntmps4
      go_wp2_with (first
        | (go_at_call 9; clear t1; rw [← hW0]; clear hW0; refine (hZ _).mono ?_; rintro e v1 ⟨rfl, hb⟩; replace B0 := Rw.next B0 hb; replace k0 := (hb.block _ (Pl.blk_lt k0)).trans k0; replace k1 := (hb.block _ (Pl.blk_lt k1)).trans k1; clear hb; obtain ⟨p0, p1⟩ := Pl.two k0; obtain ⟨q0, q1⟩ := Pl.two k1)
        | (go_at_call 9; refine (hY _).mono ?_; rintro e v1 ⟨rfl, hb⟩; clear p0 p1 q0 q1; replace B0 := Rw.next B0 hb; replace k0 := (hb.block _ (Pl.blk_lt k0)).trans k0; replace k1 := (hb.block _ (Pl.blk_lt k1)).trans k1; clear hb; obtain ⟨p0, p1⟩ := Pl.two k0; obtain ⟨q0, q1⟩ := Pl.two k1))
      have t5 : True := trivial
      go_region_held3 (fun w' => w'.cell? ⟨w.heap.size, 0, none⟩ = some (.int .i64 n0) ∧ w'.cell? ⟨w.heap.size, 1, none⟩ = some (.string s0) ∧ w'.cell? ⟨w.heap.size + 1, 0, none⟩ = some (.int .i64 n1) ∧ w'.cell? ⟨w.heap.size + 1, 1, none⟩ = some (.string s1)) (go_keep) (first
        | (go_at_call 11; clear t5; refine (Vl.toValue_any _ _ _).mono ?_; rintro e v1 ⟨rfl, hb⟩; replace hb := Rw.next ((Below.refl _ _).drew) hb; clear p0 p1 q0 q1; replace B0 := Rw.next B0 hb; replace k0 := (hb.block _ (Pl.blk_lt k0)).trans k0; replace k1 := (hb.block _ (Pl.blk_lt k1)).trans k1; clear hb; obtain ⟨p0, p1⟩ := Pl.two k0; obtain ⟨q0, q1⟩ := Pl.two k1)
        | (go_at_call 11; refine (Vl.toValue_any _ _ _).mono ?_; rintro e v1 ⟨rfl, hb⟩; clear p0 p1 q0 q1; replace B0 := Rw.next B0 hb; replace k0 := (hb.block _ (Pl.blk_lt k0)).trans k0; replace k1 := (hb.block _ (Pl.blk_lt k1)).trans k1; clear hb; obtain ⟨p0, p1⟩ := Pl.two k0; obtain ⟨q0, q1⟩ := Pl.two k1)
        | (go_at_call 13; refine (hS _).mono ?_; rintro e v1 ⟨rfl, hb⟩; clear p0 p1 q0 q1; replace B0 := Rw.next B0 hb; replace k0 := (hb.block _ (Pl.blk_lt k0)).trans k0; replace k1 := (hb.block _ (Pl.blk_lt k1)).trans k1; clear hb; obtain ⟨p0, p1⟩ := Pl.two k0; obtain ⟨q0, q1⟩ := Pl.two k1))
      go_wp2
      have t6 : True := trivial
      go_region_held3 (fun w' => w'.cell? ⟨w.heap.size, 0, none⟩ = some (.int .i64 n0) ∧ w'.cell? ⟨w.heap.size, 1, none⟩ = some (.string s0) ∧ w'.cell? ⟨w.heap.size + 1, 0, none⟩ = some (.int .i64 n1) ∧ w'.cell? ⟨w.heap.size + 1, 1, none⟩ = some (.string s1)) (go_keep) (first
        | (go_at_call 11; clear t6; refine (Vl.toValue_any _ _ _).mono ?_; rintro e v1 ⟨rfl, hb⟩; replace hb := Rw.next ((Below.refl _ _).drew) hb; clear p0 p1 q0 q1; replace B0 := Rw.next B0 hb; replace k0 := (hb.block _ (Pl.blk_lt k0)).trans k0; replace k1 := (hb.block _ (Pl.blk_lt k1)).trans k1; clear hb; obtain ⟨p0, p1⟩ := Pl.two k0; obtain ⟨q0, q1⟩ := Pl.two k1)
        | (go_at_call 11; refine (Vl.toValue_any _ _ _).mono ?_; rintro e v1 ⟨rfl, hb⟩; clear p0 p1 q0 q1; replace B0 := Rw.next B0 hb; replace k0 := (hb.block _ (Pl.blk_lt k0)).trans k0; replace k1 := (hb.block _ (Pl.blk_lt k1)).trans k1; clear hb; obtain ⟨p0, p1⟩ := Pl.two k0; obtain ⟨q0, q1⟩ := Pl.two k1)
        | (go_at_call 14; refine (hI _).mono ?_; rintro e v1 ⟨rfl, hb⟩; clear p0 p1 q0 q1; replace B0 := Rw.next B0 hb; replace k0 := (hb.block _ (Pl.blk_lt k0)).trans k0; replace k1 := (hb.block _ (Pl.blk_lt k1)).trans k1; clear hb; obtain ⟨p0, p1⟩ := Pl.two k0; obtain ⟨q0, q1⟩ := Pl.two k1))
      go_wp2
      go_ret
      exact ⟨rfl, B0⟩
    · have hY := fun W => Vl.szV_big n1 s1 L W (by omega) hLl w1
      go_enter Try.func4, Try.ntmps4
      go_wp2_with (first
        | (go_at_call 9; clear t1; rw [← hW0]; clear hW0; refine (hZ _).mono ?_; rintro e v1 ⟨rfl, hb⟩; replace B0 := Rw.next B0 hb; replace k0 := (hb.block _ (Pl.blk_lt k0)).trans k0; replace k1 := (hb.block _ (Pl.blk_lt k1)).trans k1; clear hb; obtain ⟨p0, p1⟩ := Pl.two k0; obtain ⟨q0, q1⟩ := Pl.two k1)
        | (go_at_call 9; refine (hY _).mono ?_; rintro e v1 ⟨rfl, hb⟩))
      go_ret
      exact ⟨rfl, Rw.next B0 hb⟩
  · have hZ := fun W => Vl.szV_big n0 s0 1048576 W (by omega) (Nat.le_refl _) w0
    go_enter Try.func4, Try.ntmps4
    go_wp2_with (go_at_call 9; rw [← hW0]; clear hW0; refine (hZ _).mono ?_; rintro e v1 ⟨rfl, hb⟩)
    go_ret
    exact ⟨rfl, Rw.next B0 hb⟩

set_option maxRecDepth 100000 in
theorem lifted (os : Os) (started : os.Started) (H : Type) (enc : TypeId × Value → H) :
    ReturnsInHanded {} Try.checked os 4 .any (Rows.fnExactValueLessSpec.pre6 enc Try.prog Try.f4 Rows.fnExactValueLessRow.domain false) (Rows.fnExactValueLessSpec.post enc Try.prog Try.f4 false true false false) := by
  refine returnsInHanded_of_change (C := Try.checked) own started (by kernel_rfl) Try.func4
    (ChangeSpec.witness6 (enc := enc) (C := Try.checked) false ⟨#[], #[.agg #[.int .i64 0, .string ByteArray.empty], .agg #[.int .i64 0, .string ByteArray.empty]], []⟩ 8 (by kernel_rfl) (by kernel_rfl) (by kernel_rfl) (by kernel_rfl)) ?_
  intro W base args ds gs before hval0 hW hcnd _
  have hval : ∀ (j : Nat) t v, Try.f4.params[j]? = some t → args[j]? = some v → Value.okWide Try.prog W .any base t v := hval0
  have hW' := hW
  obtain ⟨p, q, hA0, hV, rfl, hfz, hnd⟩ := hW
  have hA : DataW.TrodAll enc Try.prog W 0 (fun _ => true) true Try.f4.params.toList args.toList ds p := hA0
  rw [Try.params4] at hA hval
  obtain ⟨v0, vs0, d0, ds0, p0, q0, hargs, rfl, rfl, h0, r0⟩ := trodAll_cons hA
  obtain ⟨v1, vs1, d1, ds1, p1, q1, rfl, rfl, rfl, h1, r1⟩ := trodAll_cons r0
  obtain ⟨rfl, rfl, rfl⟩ := trodAll_nil r1
  obtain rfl : args = #[v0, v1] := by cases args; simp_all
  obtain ⟨rfl, rfl⟩ := trodVars_none hV
  have k0 := h0
  have lt0 : ∀ x ∈ p0, x.block < W.heap.size := by obtain ⟨m, hm⟩ := k0; exact DataW.trod_lt m _ _ _ hm
  obtain ⟨n0, s0, rfl, w0⟩ := Vl.open_value (hval 0 23 v0 rfl rfl) h0
  have k1 := h1
  have lt1 : ∀ x ∈ p1, x.block < W.heap.size := by obtain ⟨m, hm⟩ := k1; exact DataW.trod_lt m _ _ _ hm
  obtain ⟨n1, s1, rfl, w1⟩ := Vl.open_value (hval 1 23 v1 rfl rfl) h1
  clear hA0 hval0
  refine (walk n0 s0 n1 s1 W w0 w1).mono fun e W' ⟨he, bel⟩ => ?_
  subst he
  exact ⟨_, rfl, _, _, _, [], _, [], hW', trodAll_mk1 (shut_bool Try.underlying4 _), (trodAll_cons_mk (Below.trod laidOut (by kernel_rfl) (of_decide_eq_true (by kernel_rfl)) k0 bel lt0) (trodAll_cons_mk (Below.trod laidOut (by kernel_rfl) (of_decide_eq_true (by kernel_rfl)) k1 bel lt1) trodAll_mk0)), rfl, bel.frame _, fun h => by cases h⟩

theorem over : Rows.fnExactValueLessRow.holds Try.pinned (OpenSpec.ofChange Rows.fnExactValueLessSpec) :=
  OpenClaim.holds_of_wide 4 Try.f4 rfl rfl rfl rfl rfl rfl rfl ⟨rfl, rfl, rfl, rfl, rfl⟩ rfl rfl rfl rfl rfl (by kernel_rfl) Try.func4 (by kernel_rfl)
    (of_decide_eq_true (by kernel_rfl)) (by unfold Func.isWrapper; first | (rw [if_pos (by decide +kernel)]; kernel_rfl) | (rw [if_neg (by decide +kernel)]; exact ⟨rfl, rfl⟩))
    (fun os started H enc _ => lifted os started H enc)

theorem proved : Rows.FnExactValueLessSaid := over
end Go.Proofs.Ytbbgffhmmemkmaa.fnExactValueLess

namespace Go.Proofs.Ytbbgffhmmemkmaa
theorem FnExactValueLess_holds : Rows.FnExactValueLessSaid := fnExactValueLess.proved
end Go.Proofs.Ytbbgffhmmemkmaa
