/- At every row the program and the specification answer the same whether it is right, and the argument reads as before; no condition. -/
import Derived.Test.YtbbgffhmmemkmaaRows
import Derived.Test.YtbbgffhmmemkmaaVs
import Derived.WalkKit
import Derived.ProofKit
import Derived.OpenShut
import Derived.ShutString
import Derived.ChangeOld
import Derived.Below
import Derived.Deep.RegionWith
import Derived.Deep.RegionHeld3
namespace Go.Proofs.Ytbbgffhmmemkmaa.fnExactRowOk
open Go.ChangeShapes Go.WideShapes Go.ChangeAt Go.RowKit
set_option linter.unusedVariables false
set_option linter.unusedSimpArgs false

theorem own : ownKnob Try.prog.godebug = none := by kernel_rfl
theorem laidOut : laidOutB Try.prog = true := by kernel_rfl

set_option maxRecDepth 8000 in
set_option maxHeartbeats 16000000 in
theorem walk (a0 : Option Addr) (c0 : Nat) (l0 : List Vl.V2) (w : World) (w0 : Vl.IsRow w a0 l0) :
    Calls Try.prog 6 #[.agg #[.slice a0 l0.length c0]] w fun e w' => e = .returned (.bool true) ∧ Below w.heap.size w w' := by
  obtain ⟨W0, hW0⟩ : ∃ W0, W0 = w.alloc (.cells #[.slice a0 l0.length c0] 34) := ⟨_, rfl⟩
  have B0 : Below w.heap.size w W0 := by subst hW0; exact Pl.below_alloc1 _ _
  have k0 : W0.heap[w.heap.size]? = some (.cells #[.slice a0 l0.length c0] 34 (0, 0)) := by subst hW0; exact Pl.at_new rfl
  replace w0 := w0.below B0
  by_cases hbig : 1048576 < l0.length + Vl.tot l0 l0.length
  · have hZ := Vl.szR_big a0 c0 1048576 l0 W0 w0 hbig (Nat.le_refl _)
    go_enter Try.func6, Try.ntmps6
    go_wp2_with (go_at_call 17; rw [← hW0]; clear hW0; refine hZ.mono ?_; rintro e w1 ⟨rfl, hb⟩)
    go_ret
    exact ⟨rfl, Rw.next B0 hb⟩
  obtain ⟨L, hL⟩ : ∃ L : Nat, l0.length + Vl.tot l0 l0.length + L = 1048576 := ⟨1048576 - (l0.length + Vl.tot l0 l0.length), by omega⟩
  have hZ := Vl.szR_at a0 c0 1048576 L l0 W0 w0 hL (Nat.le_refl _)
  have hp : ¬ ((L : Int) < 0) := by omega
  obtain ⟨b, off, r0⟩ := Vl.rd_of_isRow w0 (by omega)
  clear w0 hbig hL
  have hS := fun a b off cap W h => Vl.rowS_any a b off cap l0 W h
  have hI := fun a b off cap W h => Vl.rowI_any a b off cap l0 W h
  generalize Vl.rowB l0 = R at hS hI
  have t1 : True := trivial
  go_enter Try.func6, Try.ntmps6
  go_wp2_with (first
    | (go_at_call 17; rw [← hW0]; clear hW0; refine hZ.mono ?_; rintro e w1 ⟨rfl, hb⟩; clear hZ; replace B0 := Rw.next B0 hb; replace k0 := (hb.block _ (Pl.blk_lt k0)).trans k0; replace r0 := r0.below hb; clear hb; have p0 := Pl.one k0)
    | (go_at_call 19; clear t1; refine (Vl.toR_any _ _ _ _ _ _ r0).mono ?_; rintro e w1 ⟨g, rfl, hb, hm⟩; clear p0; replace B0 := Rw.next B0 hb; replace k0 := (hb.block _ (Pl.blk_lt k0)).trans k0; replace r0 := r0.below hb; clear hb; have p0 := Pl.one k0)
    | (go_at_call 18; refine (hS _ _ _ _ _ hm.rd).mono ?_; rintro e w1 ⟨rfl, hb⟩; clear p0 hm; replace B0 := Rw.next B0 hb; replace k0 := (hb.block _ (Pl.blk_lt k0)).trans k0; replace r0 := r0.below hb; clear hb; have p0 := Pl.one k0))
  have t2 : True := trivial
  go_wp2_with (go_at_call 19; clear t2; refine (Vl.toR_any _ _ _ _ _ _ r0).mono ?_; rintro e w2 ⟨g, rfl, hb, hm⟩; clear p0; replace B0 := Rw.next B0 hb; replace k0 := (hb.block _ (Pl.blk_lt k0)).trans k0; replace r0 := r0.below hb; clear hb; have p0 := Pl.one k0)
  obtain ⟨W2, hW2⟩ : ∃ W2, W2 = w2.alloc (.cells #[.slice (some ⟨g, 0, none⟩) l0.length l0.length] 39) := ⟨_, rfl⟩
  have k1 : W2.heap[w2.heap.size]? = some (.cells #[.slice (some ⟨g, 0, none⟩) l0.length l0.length] 39 (0, 0)) := by subst hW2; exact Pl.at_new rfl
  have hb : Below w2.heap.size w2 W2 := by subst hW2; exact Pl.below_alloc1 _ _
  clear p0
  replace hm := hm.below hb
  replace B0 := Rw.next B0 hb; replace k0 := (hb.block _ (Pl.blk_lt k0)).trans k0; replace r0 := r0.below hb; clear hb
  have p0 := Pl.one k0
  have q0 := Pl.one k1
  go_wp2_with (go_at_call 20; rw [← hW2]; clear hW2; refine (hI _ _ _ _ _ hm.rd).mono ?_; rintro e w3 ⟨rfl, hb⟩; clear p0 q0; replace k1 := (hb.block _ (Pl.blk_lt k1)).trans k1; replace hm := hm.below hb; replace B0 := Rw.next B0 hb; replace k0 := (hb.block _ (Pl.blk_lt k0)).trans k0; replace r0 := r0.below hb; clear hb; have p0 := Pl.one k0; have q0 := Pl.one k1)
  go_region_held3 (fun w' => w'.cell? ⟨w2.heap.size, 0, none⟩ = some (.slice (some ⟨g, 0, none⟩) l0.length l0.length) ∧ w'.cell? ⟨w.heap.size, 0, none⟩ = some (.slice a0 l0.length c0)) (go_keep) (first
    | (go_at_call 19; refine (Vl.toR_any _ _ _ _ _ _ (r0.below ((Below.refl _ _).drew))).mono ?_; rintro e w4 ⟨g2, rfl, hb, hm2⟩; replace hb := Rw.next ((Below.refl _ _).drew) hb; clear p0 q0; replace k1 := (hb.block _ (Pl.blk_lt k1)).trans k1; replace hm := hm.below hb; replace B0 := Rw.next B0 hb; replace k0 := (hb.block _ (Pl.blk_lt k0)).trans k0; replace r0 := r0.below hb; clear hb; have p0 := Pl.one k0; have q0 := Pl.one k1)
    | (go_at_call 21; refine (Vl.eqR_same _ _ _ _ _ _ _ _ _ _ hm.rd hm2.rd).mono ?_; rintro e w5 ⟨rfl, hb⟩; clear hm2; clear p0 q0; replace k1 := (hb.block _ (Pl.blk_lt k1)).trans k1; replace hm := hm.below hb; replace B0 := Rw.next B0 hb; replace k0 := (hb.block _ (Pl.blk_lt k0)).trans k0; replace r0 := r0.below hb; clear hb; have p0 := Pl.one k0; have q0 := Pl.one k1))
  go_wp2
  go_ret
  exact ⟨rfl, B0⟩

set_option maxRecDepth 100000 in
theorem lifted (os : Os) (started : os.Started) (H : Type) (enc : TypeId × Value → H) :
    ReturnsInHanded {} Try.checked os 6 .any (Rows.fnExactRowOkSpec.pre6 enc Try.prog Try.f6 Rows.fnExactRowOkRow.domain false) (Rows.fnExactRowOkSpec.post enc Try.prog Try.f6 false true false false) := by
  refine returnsInHanded_of_change (C := Try.checked) own started (by kernel_rfl) Try.func6
    (ChangeSpec.witness6 (enc := enc) (C := Try.checked) false ⟨#[], #[.agg #[.slice none 0 0]], []⟩ 8 (by kernel_rfl) (by kernel_rfl) (by kernel_rfl) (by kernel_rfl)) ?_
  intro W base args ds gs before hval0 hW hcnd _
  have hval : ∀ (j : Nat) t v, Try.f6.params[j]? = some t → args[j]? = some v → Value.okWide Try.prog W .any base t v := hval0
  have hW' := hW
  obtain ⟨p, q, hA0, hV, rfl, hfz, hnd⟩ := hW
  have hA : DataW.TrodAll enc Try.prog W 0 (fun _ => true) true Try.f6.params.toList args.toList ds p := hA0
  rw [Try.params6] at hA hval
  obtain ⟨v0, vs0, d0, ds0, p0, q0, hargs, rfl, rfl, h0, r0⟩ := trodAll_cons hA
  obtain ⟨rfl, rfl, rfl⟩ := trodAll_nil r0
  obtain rfl : args = #[v0] := by cases args; simp_all
  obtain ⟨rfl, rfl⟩ := trodVars_none hV
  have k0 := h0
  have lt0 : ∀ x ∈ p0, x.block < W.heap.size := by obtain ⟨m, hm⟩ := k0; exact DataW.trod_lt m _ _ _ hm
  obtain ⟨a0, c0, l0, rfl, w0⟩ := Vl.open_row (hval 0 34 v0 rfl rfl) h0
  clear hA0 hval0
  refine (walk a0 c0 l0 W w0).mono fun e W' ⟨he, bel⟩ => ?_
  subst he
  exact ⟨_, rfl, _, _, _, [], _, [], hW', trodAll_mk1 (shut_bool Try.underlying4 _), (trodAll_cons_mk (Below.trod laidOut (by kernel_rfl) (of_decide_eq_true (by kernel_rfl)) k0 bel lt0) trodAll_mk0), rfl, bel.frame _, fun h => by cases h⟩

theorem over : Rows.fnExactRowOkRow.holds Try.pinned (OpenSpec.ofChange Rows.fnExactRowOkSpec) :=
  OpenClaim.holds_of_wide 6 Try.f6 rfl rfl rfl rfl rfl rfl rfl ⟨rfl, rfl, rfl, rfl, rfl⟩ rfl rfl rfl rfl rfl (by kernel_rfl) Try.func6 (by kernel_rfl)
    (of_decide_eq_true (by kernel_rfl)) (by unfold Func.isWrapper; first | (rw [if_pos (by decide +kernel)]; kernel_rfl) | (rw [if_neg (by decide +kernel)]; exact ⟨rfl, rfl⟩))
    (fun os started H enc _ => lifted os started H enc)

theorem proved : Rows.FnExactRowOkSaid := over
end Go.Proofs.Ytbbgffhmmemkmaa.fnExactRowOk

namespace Go.Proofs.Ytbbgffhmmemkmaa
theorem FnExactRowOk_holds : Rows.FnExactRowOkSaid := fnExactRowOk.proved
end Go.Proofs.Ytbbgffhmmemkmaa
