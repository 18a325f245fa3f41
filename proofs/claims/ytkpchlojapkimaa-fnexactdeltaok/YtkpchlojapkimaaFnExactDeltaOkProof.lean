/- At every change of stores the program and the specification answer the same whether it is right, and the argument reads as before; no condition. -/
import Derived.Test.YtkpchlojapkimaaRows
import Derived.Test.YtkpchlojapkimaaEf
import Derived.Test.YtkpchlojapkimaaEg
import Derived.Test.YtkpchlojapkimaaEd
import Derived.WalkKit
import Derived.ProofKit
import Derived.OpenShut
import Derived.ShutString
import Derived.ChangeOld
import Derived.Below
import Derived.Deep.RegionWith
import Derived.Deep.RegionHeld3
namespace Go.Proofs.Ytkpchlojapkimaa.fnExactDeltaOk
open Go.ChangeShapes Go.WideShapes Go.ChangeAt Go.RowKit
open Go.ChangeMaps (open_string shut_string)
set_option linter.unusedVariables false
set_option linter.unusedSimpArgs false

theorem own : ownKnob Try.prog.godebug = none := by kernel_rfl
theorem laidOut : laidOutB Try.prog = true := by kernel_rfl

set_option maxRecDepth 8000 in
set_option maxHeartbeats 16000000 in
theorem walk (a0 : Option Addr) (c0 : Nat) (T0 : List Ch.Raw) (w : World) (w0 : Ch.IsDl w a0 T0) :
    Calls Try.prog 3 #[.agg #[.slice a0 T0.length c0]] w fun e w' => e = .returned (.bool true) ∧ Below w.heap.size w w' := by
  obtain ⟨W0, hW0⟩ : ∃ W0, W0 = w.alloc (.cells #[.slice a0 T0.length c0] 24) := ⟨_, rfl⟩
  have B0 : Below w.heap.size w W0 := by subst hW0; exact Pl.below_alloc1 _ _
  have k0 : W0.heap[w.heap.size]? = some (.cells #[.slice a0 T0.length c0] 24 (0, 0)) := by subst hW0; exact Pl.at_new rfl
  replace w0 := w0.below B0
  by_cases hbig : 1048576 < T0.length + Ch.totC T0 T0.length
  · have hZ := Ch.szDl_big a0 c0 1048576 T0 W0 w0 hbig (Nat.le_refl _)
    go_enter Try.func3, Try.ntmps3
    go_wp2_with (go_at_call 6; rw [← hW0]; clear hW0; refine hZ.mono ?_; rintro e w1 ⟨rfl, hb⟩)
    go_ret
    exact ⟨rfl, Rw.next B0 hb⟩
  obtain ⟨L, hL⟩ : ∃ L : Nat, T0.length + Ch.totC T0 T0.length + L = 1048576 := ⟨1048576 - (T0.length + Ch.totC T0 T0.length), by omega⟩
  have hZ := Ch.szDl_at a0 c0 1048576 L T0 W0 w0 hL (Nat.le_refl _)
  have hp : ¬ ((L : Int) < 0) := by omega
  obtain ⟨b, off, Q, r0, hQ, _⟩ := Ch.rd_of_isDl w0 (by omega)
  rw [← hQ] at hZ hW0 k0 ⊢
  clear w0 hbig hL hQ
  have hS := fun a b off cap P W h (e : Ch.told P = Ch.told Q) => e ▸ Ch.okS_any a b off cap P W h
  have hI := fun a b off cap P W h h' (e : Ch.told P = Ch.told Q) => e ▸ Ch.okI_any a b off cap P W h h'
  generalize Ch.deltaB (Ch.told Q) = R at hS hI
  have t1 : True := trivial
  go_enter Try.func3, Try.ntmps3
  go_wp2_with (first
    | (go_at_call 6; rw [← hW0]; clear hW0; refine hZ.mono ?_; rintro e w1 ⟨rfl, hb⟩; clear hZ; replace k0 := (hb.block _ (Pl.blk_lt k0)).trans k0; replace r0 := r0.below hb; replace B0 := Rw.next B0 hb; clear hb; have p0 := Pl.one k0)
    | (go_at_call 8; clear t1; refine (Ch.toDl_any _ _ _ _ _ _ r0).mono ?_; rintro e w1 ⟨g, P, rfl, hb, hm, sP, _⟩; clear p0; replace k0 := (hb.block _ (Pl.blk_lt k0)).trans k0; replace r0 := r0.below hb; replace B0 := Rw.next B0 hb; clear hb; have p0 := Pl.one k0)
    | (go_at_call 7; refine (hS _ _ _ _ _ _ hm.rd sP).mono ?_; rintro e w1 ⟨rfl, hb⟩; clear p0 hm sP; replace k0 := (hb.block _ (Pl.blk_lt k0)).trans k0; replace r0 := r0.below hb; replace B0 := Rw.next B0 hb; clear hb; have p0 := Pl.one k0))
  have t2 : True := trivial
  go_wp2_with (go_at_call 8; clear t2; refine (Ch.toDl_any _ _ _ _ _ _ r0).mono ?_; rintro e wx ⟨gx, X, rfl, hb, mx, sX, hrm⟩; clear p0; replace k0 := (hb.block _ (Pl.blk_lt k0)).trans k0; replace r0 := r0.below hb; replace B0 := Rw.next B0 hb; clear hb)
  obtain ⟨Wx, hWx⟩ : ∃ Wx, Wx = wx.alloc (.cells #[.slice (some ⟨gx, 0, none⟩) X.length X.length] 29) := ⟨_, rfl⟩
  have kx : Wx.heap[wx.heap.size]? = some (.cells #[.slice (some ⟨gx, 0, none⟩) X.length X.length] 29 (0, 0)) := by subst hWx; exact Pl.at_new rfl
  have hb : Below wx.heap.size wx Wx := by subst hWx; exact Pl.below_alloc1 _ _
  replace k0 := (hb.block _ (Pl.blk_lt k0)).trans k0; replace r0 := r0.below hb; replace mx := mx.below hb; replace B0 := Rw.next B0 hb; clear hb
  have p0 := Pl.one k0
  have y0 := Pl.one kx
  have hXI := fun W h => hI (some ⟨gx, 0, none⟩) gx 0 X.length X W h hrm sX
  go_wp2_with (go_at_call 9; rw [← hWx]; clear hWx; refine (hXI _ mx.rd).mono ?_; rintro e w3 ⟨rfl, hb⟩; clear p0 y0; replace k0 := (hb.block _ (Pl.blk_lt k0)).trans k0; replace kx := (hb.block _ (Pl.blk_lt kx)).trans kx; replace r0 := r0.below hb; replace mx := mx.below hb; replace B0 := Rw.next B0 hb; clear hb; have p0 := Pl.one k0; have y0 := Pl.one kx)
  go_region_held3 (fun w' => w'.cell? ⟨wx.heap.size, 0, none⟩ = some (.slice (some ⟨gx, 0, none⟩) X.length X.length) ∧ w'.cell? ⟨w.heap.size, 0, none⟩ = some (.slice a0 Q.length c0)) (go_keep) (first
    | (go_at_call 8; refine (Ch.toDl_any _ _ _ _ _ _ (r0.below ((Below.refl _ _).drew))).mono ?_; rintro e w4 ⟨g2, P2, rfl, hb, m2, s2, _⟩; replace hb := Rw.next ((Below.refl _ _).drew) hb; clear p0 y0; replace k0 := (hb.block _ (Pl.blk_lt k0)).trans k0; replace kx := (hb.block _ (Pl.blk_lt kx)).trans kx; replace r0 := r0.below hb; replace mx := mx.below hb; replace B0 := Rw.next B0 hb; clear hb; have p0 := Pl.one k0; have y0 := Pl.one kx)
    | (go_at_call 10; refine (Ch.eqDl_same _ _ _ _ _ _ _ _ _ _ _ mx.rd m2.rd (sX.trans s2.symm)).mono ?_; rintro e w5 ⟨rfl, hb⟩; clear m2 s2; clear p0 y0; replace k0 := (hb.block _ (Pl.blk_lt k0)).trans k0; replace kx := (hb.block _ (Pl.blk_lt kx)).trans kx; replace r0 := r0.below hb; replace mx := mx.below hb; replace B0 := Rw.next B0 hb; clear hb; have p0 := Pl.one k0; have y0 := Pl.one kx))
  go_wp2
  go_ret
  exact ⟨rfl, B0⟩

set_option maxRecDepth 100000 in
theorem lifted (os : Os) (started : os.Started) (H : Type) (enc : TypeId × Value → H) :
    ReturnsInHanded {} Try.checked os 3 .any (Rows.fnExactDeltaOkSpec.pre6 enc Try.prog Try.f3 Rows.fnExactDeltaOkRow.domain false) (Rows.fnExactDeltaOkSpec.post enc Try.prog Try.f3 false true false false) := by
  refine returnsInHanded_of_change (C := Try.checked) own started (by kernel_rfl) Try.func3
    (ChangeSpec.witness6 (enc := enc) (C := Try.checked) false ⟨#[], #[.agg #[.slice none 0 0]], []⟩ 8 (by kernel_rfl) (by kernel_rfl) (by kernel_rfl) (by kernel_rfl)) ?_
  intro W base args ds gs before hval0 hW hcnd _
  have hval : ∀ (j : Nat) t v, Try.f3.params[j]? = some t → args[j]? = some v → Value.okWide Try.prog W .any base t v := hval0
  have hW' := hW
  obtain ⟨p, q, hA0, hV, rfl, hfz, hnd⟩ := hW
  have hA : DataW.TrodAll enc Try.prog W 0 (fun _ => true) true Try.f3.params.toList args.toList ds p := hA0
  rw [Try.params3] at hA hval
  obtain ⟨v0, vs0, d0, ds0, p0, q0, hargs, rfl, rfl, h0, r0⟩ := trodAll_cons hA
  obtain ⟨rfl, rfl, rfl⟩ := trodAll_nil r0
  obtain rfl : args = #[v0] := by cases args; simp_all
  obtain ⟨rfl, rfl⟩ := trodVars_none hV
  have k0 := h0
  have lt0 : ∀ x ∈ p0, x.block < W.heap.size := by obtain ⟨m, hm⟩ := k0; exact DataW.trod_lt m _ _ _ hm
  obtain ⟨a0, c0, T0, rfl, w0⟩ := Ch.open_delta (hval 0 24 v0 rfl rfl) h0
  clear hA0 hval0
  refine (walk a0 c0 T0 W w0).mono fun e W' ⟨he, bel⟩ => ?_
  subst he
  exact ⟨_, rfl, _, _, _, [], _, [], hW', trodAll_mk1 (shut_bool Try.underlying4 _), (trodAll_cons_mk (Below.trod laidOut (by kernel_rfl) (of_decide_eq_true (by kernel_rfl)) k0 bel lt0) trodAll_mk0), rfl, bel.frame _, fun h => by cases h⟩

theorem over : Rows.fnExactDeltaOkRow.holds Try.pinned (OpenSpec.ofChange Rows.fnExactDeltaOkSpec) :=
  OpenClaim.holds_of_wide 3 Try.f3 rfl rfl rfl rfl rfl rfl rfl ⟨rfl, rfl, rfl, rfl, rfl⟩ rfl rfl rfl rfl rfl (by kernel_rfl) Try.func3 (by kernel_rfl)
    (of_decide_eq_true (by kernel_rfl)) (by unfold Func.isWrapper; first | (rw [if_pos (by decide +kernel)]; kernel_rfl) | (rw [if_neg (by decide +kernel)]; exact ⟨rfl, rfl⟩))
    (fun os started H enc _ => lifted os started H enc)

theorem proved : Rows.FnExactDeltaOkSaid := over
end Go.Proofs.Ytkpchlojapkimaa.fnExactDeltaOk

namespace Go.Proofs.Ytkpchlojapkimaa
theorem FnExactDeltaOk_holds : Rows.FnExactDeltaOkSaid := fnExactDeltaOk.proved
end Go.Proofs.Ytkpchlojapkimaa
