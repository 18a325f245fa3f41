/- At every two rows the program and the specification answer the same order, and the arguments read as before; no condition. -/
import Derived.Test.YtbbgffhmmemkmaaRows
import Derived.Test.YtbbgffhmmemkmaaVs
import Derived.WalkKit
import Derived.ProofKit
import Derived.OpenShut
import Derived.ShutString
import Derived.ChangeOld
import Derived.Below
import Derived.Deep.RegionWith
import Derived.Deep.RegionHeld3
namespace Go.Proofs.Ytbbgffhmmemkmaa.fnExactRowOrder
open Go.ChangeShapes Go.WideShapes Go.ChangeAt Go.RowKit
set_option linter.unusedVariables false
set_option linter.unusedSimpArgs false

theorem own : ownKnob Try.prog.godebug = none := by kernel_rfl
theorem laidOut : laidOutB Try.prog = true := by kernel_rfl

set_option maxRecDepth 8000 in
set_option maxHeartbeats 16000000 in
theorem walk (a0 : Option Addr) (c0 : Nat) (l0 : List Vl.V2) (a1 : Option Addr) (c1 : Nat) (l1 : List Vl.V2) (w : World) (w0 : Vl.IsRow w a0 l0) (w1 : Vl.IsRow w a1 l1) :
    Calls Try.prog 7 #[.agg #[.slice a0 l0.length c0], .agg #[.slice a1 l1.length c1]] w fun e w' => e = .returned (.bool true) ∧ Below w.heap.size w w' := by
  obtain ⟨W0, hW0⟩ : ∃ W0, W0 = (w.alloc (.cells #[.slice a0 l0.length c0] 34)).alloc (.cells #[.slice a1 l1.length c1] 34) := ⟨_, rfl⟩
  have B0 : Below w.heap.size w W0 := by subst hW0; exact Pl.below_alloc2 _ _ _
  have k0 : W0.heap[w.heap.size]? = some (.cells #[.slice a0 l0.length c0] 34 (0, 0)) := by subst hW0; rw [Pl.at_old (by simp), Pl.at_new rfl]
  have k1 : W0.heap[w.heap.size + 1]? = some (.cells #[.slice a1 l1.length c1] 34 (0, 0)) := by subst hW0; rw [Pl.at_new (by simp)]
  replace w0 := w0.below B0
  replace w1 := w1.below B0
  have t1 : True := trivial
  by_cases hbig : 1048576 < l0.length + Vl.tot l0 l0.length
  · have hZ := Vl.szR_big a0 c0 1048576 l0 W0 w0 hbig (Nat.le_refl _)
    go_enter Try.func7, Try.ntmps7
    go_wp2_with (go_at_call 17; rw [← hW0]; clear hW0; refine hZ.mono ?_; rintro e v1 ⟨rfl, hb⟩)
    go_ret
    exact ⟨rfl, Rw.next B0 hb⟩
  obtain ⟨L, hL⟩ : ∃ L : Nat, l0.length + Vl.tot l0 l0.length + L = 1048576 := ⟨1048576 - (l0.length + Vl.tot l0 l0.length), by omega⟩
  have hZ := Vl.szR_at a0 c0 1048576 L l0 W0 w0 hL (Nat.le_refl _)
  have hp : ¬ ((L : Int) < 0) := by omega
  have hLl : L ≤ 1048576 := by omega
  obtain ⟨b, off, r0⟩ := Vl.rd_of_isRow w0 (by omega)
  clear w0 hbig hL
  by_cases hbig : L < l1.length + Vl.tot l1 l1.length
  · have hY := fun W h => Vl.szR_big a1 c1 L l1 W h hbig hLl
    go_enter Try.func7, Try.ntmps7
    go_wp2_with (first
      | (go_at_call 17; clear t1; rw [← hW0]; clear hW0; refine hZ.mono ?_; rintro e v1 ⟨rfl, hb⟩; replace B0 := Rw.next B0 hb; replace k1 := (hb.block _ (Pl.blk_lt k1)).trans k1; replace w1 := w1.below hb; have p1 := Pl.one k1)
      | (go_at_call 17; refine (hY _ w1).mono ?_; rintro e v1 ⟨rfl, hb⟩))
    go_ret
    exact ⟨rfl, Rw.next B0 hb⟩
  obtain ⟨M, hM⟩ : ∃ M : Nat, l1.length + Vl.tot l1 l1.length + M = L := ⟨L - (l1.length + Vl.tot l1 l1.length), by omega⟩
  have hY := fun W h => Vl.szR_at a1 c1 L M l1 W h hM hLl
  have hp2 : ¬ ((M : Int) < 0) := by omega
  obtain ⟨b', off', r1⟩ := Vl.rd_of_isRow w1 (by omega)
  clear hbig hM
  have hS := fun a a' b off c b' off' c' W h h' => Vl.rorderS_any a a' b off c b' off' c' l0 l1 W h h'
  have hI := fun a a' b off c b' off' c' W h h' => Vl.rorderI_any a a' b off c b' off' c' l0 l1 W h h'
  generalize Vl.rordB l0 l1 = R at hS hI
  go_enter Try.func7, Try.ntmps7
  go_wp2_with (first
    | (go_at_call 17; clear t1; rw [← hW0]; clear hW0; refine hZ.mono ?_; rintro e v1 ⟨rfl, hb⟩; clear hZ; replace w1 := w1.below hb; replace B0 := Rw.next B0 hb; replace k0 := (hb.block _ (Pl.blk_lt k0)).trans k0; replace k1 := (hb.block _ (Pl.blk_lt k1)).trans k1; replace r0 := r0.below hb; replace r1 := r1.below hb; clear hb; have p0 := Pl.one k0; have p1 := Pl.one k1)
    | (go_at_call 17; refine (hY _ w1).mono ?_; rintro e v1 ⟨rfl, hb⟩; clear hY w1; clear p0 p1; replace B0 := Rw.next B0 hb; replace k0 := (hb.block _ (Pl.blk_lt k0)).trans k0; replace k1 := (hb.block _ (Pl.blk_lt k1)).trans k1; replace r0 := r0.below hb; replace r1 := r1.below hb; clear hb; have p0 := Pl.one k0; have p1 := Pl.one k1))
  have t2 : True := trivial
  go_region_held3 (fun w' => w'.cell? ⟨w.heap.size, 0, none⟩ = some (.slice a0 l0.length c0) ∧ w'.cell? ⟨w.heap.size + 1, 0, none⟩ = some (.slice a1 l1.length c1)) (go_keep) (first
    | (go_at_call 19; clear t2; refine (Vl.toR_any _ _ _ _ _ _ (r0.below ((Below.refl _ _).drew))).mono ?_; rintro e v1 ⟨gx, rfl, hb, mx⟩; replace hb := Rw.next ((Below.refl _ _).drew) hb; clear p0 p1; replace B0 := Rw.next B0 hb; replace k0 := (hb.block _ (Pl.blk_lt k0)).trans k0; replace k1 := (hb.block _ (Pl.blk_lt k1)).trans k1; replace r0 := r0.below hb; replace r1 := r1.below hb; clear hb; have p0 := Pl.one k0; have p1 := Pl.one k1)
    | (go_at_call 19; refine (Vl.toR_any _ _ _ _ _ _ r1).mono ?_; rintro e v1 ⟨gy, rfl, hb, my⟩; replace mx := mx.below hb; clear p0 p1; replace B0 := Rw.next B0 hb; replace k0 := (hb.block _ (Pl.blk_lt k0)).trans k0; replace k1 := (hb.block _ (Pl.blk_lt k1)).trans k1; replace r0 := r0.below hb; replace r1 := r1.below hb; clear hb; have p0 := Pl.one k0; have p1 := Pl.one k1)
    | (go_at_call 22; refine (hS _ _ _ _ _ _ _ _ _ mx.rd my.rd).mono ?_; rintro e v1 ⟨rfl, hb⟩; clear mx my p0 p1; replace B0 := Rw.next B0 hb; replace k0 := (hb.block _ (Pl.blk_lt k0)).trans k0; replace k1 := (hb.block _ (Pl.blk_lt k1)).trans k1; replace r0 := r0.below hb; replace r1 := r1.below hb; clear hb; have p0 := Pl.one k0; have p1 := Pl.one k1))
  have t3 : True := trivial
  go_wp2_with (go_at_call 19; clear t3; refine (Vl.toR_any _ _ _ _ _ _ r0).mono ?_; rintro e wx ⟨gx, rfl, hb, mx⟩; clear p0 p1; replace B0 := Rw.next B0 hb; replace k0 := (hb.block _ (Pl.blk_lt k0)).trans k0; replace k1 := (hb.block _ (Pl.blk_lt k1)).trans k1; replace r0 := r0.below hb; replace r1 := r1.below hb; clear hb; have p0 := Pl.one k0; have p1 := Pl.one k1; have lt1 := Pl.blk_lt k1)
  obtain ⟨Wx, hWx⟩ : ∃ Wx, Wx = wx.alloc (.cells #[.slice (some ⟨gx, 0, none⟩) l0.length l0.length] 39) := ⟨_, rfl⟩
  have kx : Wx.heap[wx.heap.size]? = some (.cells #[.slice (some ⟨gx, 0, none⟩) l0.length l0.length] 39 (0, 0)) := by subst hWx; exact Pl.at_new rfl
  have hb : Below wx.heap.size wx Wx := by subst hWx; exact Pl.below_alloc1 _ _
  replace mx := mx.below hb
  replace B0 := Rw.next B0 hb; replace k0 := (hb.block _ (Pl.blk_lt k0)).trans k0; replace k1 := (hb.block _ (Pl.blk_lt k1)).trans k1; replace r0 := r0.below hb; replace r1 := r1.below hb; clear hb
  have t4 : True := trivial
  go_wp2_with (go_at_call 19; clear t4; rw [← hWx]; clear hWx lt1; refine (Vl.toR_any _ _ _ _ _ _ r1).mono ?_; rintro e wy ⟨gy, rfl, hb, my⟩; clear p0 p1; replace kx := (hb.block _ (Pl.blk_lt kx)).trans kx; replace mx := mx.below hb; replace B0 := Rw.next B0 hb; replace k0 := (hb.block _ (Pl.blk_lt k0)).trans k0; replace k1 := (hb.block _ (Pl.blk_lt k1)).trans k1; replace r0 := r0.below hb; replace r1 := r1.below hb; clear hb; have p0 := Pl.one k0; have p1 := Pl.one k1; have q0 := Pl.one kx; have ltx := Pl.blk_lt kx)
  obtain ⟨Wy, hWy⟩ : ∃ Wy, Wy = wy.alloc (.cells #[.slice (some ⟨gy, 0, none⟩) l1.length l1.length] 39) := ⟨_, rfl⟩
  have ky : Wy.heap[wy.heap.size]? = some (.cells #[.slice (some ⟨gy, 0, none⟩) l1.length l1.length] 39 (0, 0)) := by subst hWy; exact Pl.at_new rfl
  have hb : Below wy.heap.size wy Wy := by subst hWy; exact Pl.below_alloc1 _ _
  replace my := my.below hb
  replace kx := (hb.block _ (Pl.blk_lt kx)).trans kx; replace mx := mx.below hb
  replace B0 := Rw.next B0 hb; replace k0 := (hb.block _ (Pl.blk_lt k0)).trans k0; replace k1 := (hb.block _ (Pl.blk_lt k1)).trans k1; replace r0 := r0.below hb; replace r1 := r1.below hb; clear hb
  have q1 : True := trivial
  go_wp2_with (go_at_call 23; rw [← hWy]; clear hWy ltx; refine (hI _ _ _ _ _ _ _ _ _ mx.rd my.rd).mono ?_; rintro e w3 ⟨rfl, hb⟩; clear p0 p1 q0 q1; replace kx := (hb.block _ (Pl.blk_lt kx)).trans kx; replace mx := mx.below hb; replace ky := (hb.block _ (Pl.blk_lt ky)).trans ky; replace my := my.below hb; replace B0 := Rw.next B0 hb; replace k0 := (hb.block _ (Pl.blk_lt k0)).trans k0; replace k1 := (hb.block _ (Pl.blk_lt k1)).trans k1; replace r0 := r0.below hb; replace r1 := r1.below hb; clear hb; have p0 := Pl.one k0; have p1 := Pl.one k1; have q0 := Pl.one kx; have q1 := Pl.one ky)
  go_region_held3 (fun w' => w'.cell? ⟨wx.heap.size, 0, none⟩ = some (.slice (some ⟨gx, 0, none⟩) l0.length l0.length) ∧ w'.cell? ⟨w.heap.size, 0, none⟩ = some (.slice a0 l0.length c0) ∧ w'.cell? ⟨w.heap.size + 1, 0, none⟩ = some (.slice a1 l1.length c1) ∧ w'.cell? ⟨wy.heap.size, 0, none⟩ = some (.slice (some ⟨gy, 0, none⟩) l1.length l1.length)) (go_keep) (first
    | (go_at_call 19; refine (Vl.toR_any _ _ _ _ _ _ (r0.below ((Below.refl _ _).drew))).mono ?_; rintro e w4 ⟨g2, rfl, hb, m2⟩; replace hb := Rw.next ((Below.refl _ _).drew) hb; clear p0 p1 q0 q1; replace kx := (hb.block _ (Pl.blk_lt kx)).trans kx; replace mx := mx.below hb; replace ky := (hb.block _ (Pl.blk_lt ky)).trans ky; replace my := my.below hb; replace B0 := Rw.next B0 hb; replace k0 := (hb.block _ (Pl.blk_lt k0)).trans k0; replace k1 := (hb.block _ (Pl.blk_lt k1)).trans k1; replace r0 := r0.below hb; replace r1 := r1.below hb; clear hb; have p0 := Pl.one k0; have p1 := Pl.one k1; have q0 := Pl.one kx; have q1 := Pl.one ky)
    | (go_at_call 21; refine (Vl.eqR_same _ _ _ _ _ _ _ _ _ _ mx.rd m2.rd).mono ?_; rintro e w5 ⟨rfl, hb⟩; clear m2; clear p0 p1 q0 q1; replace kx := (hb.block _ (Pl.blk_lt kx)).trans kx; replace mx := mx.below hb; replace ky := (hb.block _ (Pl.blk_lt ky)).trans ky; replace my := my.below hb; replace B0 := Rw.next B0 hb; replace k0 := (hb.block _ (Pl.blk_lt k0)).trans k0; replace k1 := (hb.block _ (Pl.blk_lt k1)).trans k1; replace r0 := r0.below hb; replace r1 := r1.below hb; clear hb; have p0 := Pl.one k0; have p1 := Pl.one k1; have q0 := Pl.one kx; have q1 := Pl.one ky))
  go_wp2
  go_region_held3 (fun w' => w'.cell? ⟨wy.heap.size, 0, none⟩ = some (.slice (some ⟨gy, 0, none⟩) l1.length l1.length) ∧ w'.cell? ⟨w.heap.size + 1, 0, none⟩ = some (.slice a1 l1.length c1) ∧ w'.cell? ⟨w.heap.size, 0, none⟩ = some (.slice a0 l0.length c0) ∧ w'.cell? ⟨wx.heap.size, 0, none⟩ = some (.slice (some ⟨gx, 0, none⟩) l0.length l0.length)) (go_keep) (first
    | (go_at_call 19; refine (Vl.toR_any _ _ _ _ _ _ (r1.below ((Below.refl _ _).drew))).mono ?_; rintro e w4 ⟨g2, rfl, hb, m2⟩; replace hb := Rw.next ((Below.refl _ _).drew) hb; clear p0 p1 q0 q1; replace kx := (hb.block _ (Pl.blk_lt kx)).trans kx; replace mx := mx.below hb; replace ky := (hb.block _ (Pl.blk_lt ky)).trans ky; replace my := my.below hb; replace B0 := Rw.next B0 hb; replace k0 := (hb.block _ (Pl.blk_lt k0)).trans k0; replace k1 := (hb.block _ (Pl.blk_lt k1)).trans k1; replace r0 := r0.below hb; replace r1 := r1.below hb; clear hb; have p0 := Pl.one k0; have p1 := Pl.one k1; have q0 := Pl.one kx; have q1 := Pl.one ky)
    | (go_at_call 21; refine (Vl.eqR_same _ _ _ _ _ _ _ _ _ _ my.rd m2.rd).mono ?_; rintro e w5 ⟨rfl, hb⟩; clear m2; clear p0 p1 q0 q1; replace kx := (hb.block _ (Pl.blk_lt kx)).trans kx; replace mx := mx.below hb; replace ky := (hb.block _ (Pl.blk_lt ky)).trans ky; replace my := my.below hb; replace B0 := Rw.next B0 hb; replace k0 := (hb.block _ (Pl.blk_lt k0)).trans k0; replace k1 := (hb.block _ (Pl.blk_lt k1)).trans k1; replace r0 := r0.below hb; replace r1 := r1.below hb; clear hb; have p0 := Pl.one k0; have p1 := Pl.one k1; have q0 := Pl.one kx; have q1 := Pl.one ky))
  go_wp2
  go_ret
  exact ⟨rfl, B0⟩

set_option maxRecDepth 100000 in
theorem lifted (os : Os) (started : os.Started) (H : Type) (enc : TypeId × Value → H) :
    ReturnsInHanded {} Try.checked os 7 .any (Rows.fnExactRowOrderSpec.pre6 enc Try.prog Try.f7 Rows.fnExactRowOrderRow.domain false) (Rows.fnExactRowOrderSpec.post enc Try.prog Try.f7 false true false false) := by
  refine returnsInHanded_of_change (C := Try.checked) own started (by kernel_rfl) Try.func7
    (ChangeSpec.witness6 (enc := enc) (C := Try.checked) false ⟨#[], #[.agg #[.slice none 0 0], .agg #[.slice none 0 0]], []⟩ 8 (by kernel_rfl) (by kernel_rfl) (by kernel_rfl) (by kernel_rfl)) ?_
  intro W base args ds gs before hval0 hW hcnd _
  have hval : ∀ (j : Nat) t v, Try.f7.params[j]? = some t → args[j]? = some v → Value.okWide Try.prog W .any base t v := hval0
  have hW' := hW
  obtain ⟨p, q, hA0, hV, rfl, hfz, hnd⟩ := hW
  have hA : DataW.TrodAll enc Try.prog W 0 (fun _ => true) true Try.f7.params.toList args.toList ds p := hA0
  rw [Try.params7] at hA hval
  obtain ⟨v0, vs0, d0, ds0, p0, q0, hargs, rfl, rfl, h0, r0⟩ := trodAll_cons hA
  obtain ⟨v1, vs1, d1, ds1, p1, q1, rfl, rfl, rfl, h1, r1⟩ := trodAll_cons r0
  obtain ⟨rfl, rfl, rfl⟩ := trodAll_nil r1
  obtain rfl : args = #[v0, v1] := by cases args; simp_all
  obtain ⟨rfl, rfl⟩ := trodVars_none hV
  have k0 := h0
  have lt0 : ∀ x ∈ p0, x.block < W.heap.size := by obtain ⟨m, hm⟩ := k0; exact DataW.trod_lt m _ _ _ hm
  obtain ⟨a0, c0, l0, rfl, w0⟩ := Vl.open_row (hval 0 34 v0 rfl rfl) h0
  have k1 := h1
  have lt1 : ∀ x ∈ p1, x.block < W.heap.size := by obtain ⟨m, hm⟩ := k1; exact DataW.trod_lt m _ _ _ hm
  obtain ⟨a1, c1, l1, rfl, w1⟩ := Vl.open_row (hval 1 34 v1 rfl rfl) h1
  clear hA0 hval0
  refine (walk a0 c0 l0 a1 c1 l1 W w0 w1).mono fun e W' ⟨he, bel⟩ => ?_
  subst he
  exact ⟨_, rfl, _, _, _, [], _, [], hW', trodAll_mk1 (shut_bool Try.underlying4 _), (trodAll_cons_mk (Below.trod laidOut (by kernel_rfl) (of_decide_eq_true (by kernel_rfl)) k0 bel lt0) (trodAll_cons_mk (Below.trod laidOut (by kernel_rfl) (of_decide_eq_true (by kernel_rfl)) k1 bel lt1) trodAll_mk0)), rfl, bel.frame _, fun h => by cases h⟩

theorem over : Rows.fnExactRowOrderRow.holds Try.pinned (OpenSpec.ofChange Rows.fnExactRowOrderSpec) :=
  OpenClaim.holds_of_wide 7 Try.f7 rfl rfl rfl rfl rfl rfl rfl ⟨rfl, rfl, rfl, rfl, rfl⟩ rfl rfl rfl rfl rfl (by kernel_rfl) Try.func7 (by kernel_rfl)
    (of_decide_eq_true (by kernel_rfl)) (by unfold Func.isWrapper; first | (rw [if_pos (by decide +kernel)]; kernel_rfl) | (rw [if_neg (by decide +kernel)]; exact ⟨rfl, rfl⟩))
    (fun os started H enc _ => lifted os started H enc)

theorem proved : Rows.FnExactRowOrderSaid := over
end Go.Proofs.Ytbbgffhmmemkmaa.fnExactRowOrder

namespace Go.Proofs.Ytbbgffhmmemkmaa
theorem FnExactRowOrder_holds : Rows.FnExactRowOrderSaid := fnExactRowOrder.proved
end Go.Proofs.Ytbbgffhmmemkmaa
