/- At every store and change the program and the specification answer the same whether the change fits the store, and the arguments read as before; no condition. -/
import Derived.Test.YtkpchlojapkimaaGreatRows
import Derived.Test.YtkpchlojapkimaaGreatPfa
import Derived.WalkKit
import Derived.ProofKit
import Derived.OpenShut
import Derived.ShutString
import Derived.ChangeOld
import Derived.Below
import Derived.Deep.RegionWith
import Derived.Deep.RegionHeld3
namespace Go.Proofs.YtkpchlojapkimaaGreat.fnExactDeltaFits
open Go.ChangeShapes Go.WideShapes Go.ChangeAt Go.RowKit
open Go.ChangeMaps (open_string shut_string)
set_option linter.unusedVariables false
set_option linter.unusedSimpArgs false

theorem own : ownKnob Tryz.prog.godebug = none := by kernel_rfl
theorem laidOut : laidOutB Tryz.prog = true := by kernel_rfl

set_option maxRecDepth 8000 in
set_option maxHeartbeats 16000000 in
theorem walk (a0 : Option Addr) (c0 : Nat) (T0 : List St.Raw) (a1 : Option Addr) (c1 : Nat) (T1 : List Ch.Raw) (w : World) (w0 : St.IsSt w a0 T0) (w1 : Ch.IsDl w a1 T1) :
    Calls Tryz.prog 5 #[.agg #[.slice a0 T0.length c0], .agg #[.slice a1 T1.length c1]] w fun e w' => e = .returned (.bool true) ∧ Below w.heap.size w w' := by
  obtain ⟨W0, hW0⟩ : ∃ W0, W0 = (w.alloc (.cells #[.slice a0 T0.length c0] 44)).alloc (.cells #[.slice a1 T1.length c1] 47) := ⟨_, rfl⟩
  have B0 : Below w.heap.size w W0 := by subst hW0; exact Pl.below_alloc2 _ _ _
  have k0 : W0.heap[w.heap.size]? = some (.cells #[.slice a0 T0.length c0] 44 (0, 0)) := by subst hW0; rw [Pl.at_old (by simp), Pl.at_new rfl]
  have k1 : W0.heap[w.heap.size + 1]? = some (.cells #[.slice a1 T1.length c1] 47 (0, 0)) := by subst hW0; rw [Pl.at_new (by simp)]
  replace w0 := w0.below B0
  replace w1 := w1.below B0
  have t1 : True := trivial
  by_cases hbig : 1048576 < T0.length + St.totN T0 T0.length
  · have hZ := St.szSt_big a0 c0 1048576 T0 W0 w0 hbig (Nat.le_refl _)
    go_enter Tryz.func5, Tryz.ntmps5
    go_wp2_with (go_at_call 17; rw [← hW0]; clear hW0; refine hZ.mono ?_; rintro e v1 ⟨rfl, hb⟩)
    go_ret
    exact ⟨rfl, Rw.next B0 hb⟩
  obtain ⟨L, hL⟩ : ∃ L : Nat, T0.length + St.totN T0 T0.length + L = 1048576 := ⟨1048576 - (T0.length + St.totN T0 T0.length), by omega⟩
  have hZ0 := St.szSt_at a0 c0 1048576 L T0 W0 w0 hL (Nat.le_refl _)
  have hp : ¬ ((L : Int) < 0) := by omega
  have hLl : L ≤ 1048576 := by omega
  obtain ⟨b0, o0, Q0, r0, hQ0, _⟩ := St.rd_of_isSt w0 (by omega)
  rw [← hQ0] at hZ0 hW0 k0 ⊢
  clear hQ0
  clear w0 hbig hL
  by_cases hbig : L < T1.length + Ch.totC T1 T1.length
  · have hY := fun W h => Ch.szDl_big a1 c1 L T1 W h hbig hLl
    go_enter Tryz.func5, Tryz.ntmps5
    go_wp2_with (first
      | (go_at_call 17; clear t1; rw [← hW0]; clear hW0; refine hZ0.mono ?_; rintro e v1 ⟨rfl, hb⟩; replace B0 := Rw.next B0 hb; replace k1 := (hb.block _ (Pl.blk_lt k1)).trans k1; replace w1 := w1.below hb; have pa1 := Pl.one k1)
      | (go_at_call 18; refine (hY _ w1).mono ?_; rintro e v1 ⟨rfl, hb⟩))
    go_ret
    exact ⟨rfl, Rw.next B0 hb⟩
  obtain ⟨M, hM⟩ : ∃ M : Nat, T1.length + Ch.totC T1 T1.length + M = L := ⟨L - (T1.length + Ch.totC T1 T1.length), by omega⟩
  have hZ1 := fun W h => Ch.szDl_at a1 c1 L M T1 W h hM hLl
  have hp2 : ¬ ((M : Int) < 0) := by omega
  obtain ⟨b1, o1, Q1, r1, hQ1, _⟩ := Ch.rd_of_isDl w1 (by omega)
  rw [← hQ1] at hZ1 hW0 k1 ⊢
  clear hQ1
  clear hbig hM
  have hS := fun a a' b off c b' off' c' W X Y h h' (e : St.told X = St.told Q0 ∧ St.Rooms X) (e' : Ch.told Y = Ch.told Q1 ∧ Ch.Rooms Y) => e.1 ▸ e'.1 ▸ Ch.fitsS_any a b off c X a' b' off' c' Y W h h'
  have hI := fun a a' b off c b' off' c' W X Y h h' (e : St.told X = St.told Q0 ∧ St.Rooms X) (e' : Ch.told Y = Ch.told Q1 ∧ Ch.Rooms Y) => e.1 ▸ e'.1 ▸ Ch.fitsI_any a b off c X a' b' off' c' Y W h e.2 h' e'.2
  generalize Ch.fitsB (St.told Q0) (Ch.told Q1) = R at hS hI
  go_enter Tryz.func5, Tryz.ntmps5
  go_wp2_with (first
    | (go_at_call 17; clear t1; rw [← hW0]; clear hW0; refine hZ0.mono ?_; rintro e v1 ⟨rfl, hb⟩; clear hZ0; replace w1 := w1.below hb; replace k0 := (hb.block _ (Pl.blk_lt k0)).trans k0; replace k1 := (hb.block _ (Pl.blk_lt k1)).trans k1; replace r0 := r0.below hb; replace r1 := r1.below hb; replace B0 := Rw.next B0 hb; clear hb; have pa0 := Pl.one k0; have pa1 := Pl.one k1)
    | (go_at_call 18; refine (hZ1 _ w1).mono ?_; rintro e v1 ⟨rfl, hb⟩; clear hZ1 w1; clear pa0 pa1; replace k0 := (hb.block _ (Pl.blk_lt k0)).trans k0; replace k1 := (hb.block _ (Pl.blk_lt k1)).trans k1; replace r0 := r0.below hb; replace r1 := r1.below hb; replace B0 := Rw.next B0 hb; clear hb; have pa0 := Pl.one k0; have pa1 := Pl.one k1))
  have t2 : True := trivial
  go_region_held3 (fun w' => w'.cell? ⟨w.heap.size, 0, none⟩ = some (.slice a0 Q0.length c0) ∧ w'.cell? ⟨w.heap.size + 1, 0, none⟩ = some (.slice a1 Q1.length c1)) (go_keep) (first
    | (go_at_call 20; clear t2; refine (St.toSt_room _ _ _ _ _ _ (r0.below ((Below.refl _ _).drew))).mono ?_; rintro e v1 ⟨g0, X0, rfl, hb, m0, s0⟩; replace hb := Rw.next ((Below.refl _ _).drew) hb; clear pa0 pa1; replace k0 := (hb.block _ (Pl.blk_lt k0)).trans k0; replace k1 := (hb.block _ (Pl.blk_lt k1)).trans k1; replace r0 := r0.below hb; replace r1 := r1.below hb; replace B0 := Rw.next B0 hb; clear hb; have pa0 := Pl.one k0; have pa1 := Pl.one k1)
    | (go_at_call 21; refine (Ch.toDl_any _ _ _ _ _ _ r1).mono ?_; rintro e v1 ⟨g1, X1, rfl, hb, m1, s1⟩; replace m0 := m0.below hb; clear pa0 pa1; replace k0 := (hb.block _ (Pl.blk_lt k0)).trans k0; replace k1 := (hb.block _ (Pl.blk_lt k1)).trans k1; replace r0 := r0.below hb; replace r1 := r1.below hb; replace B0 := Rw.next B0 hb; clear hb; have pa0 := Pl.one k0; have pa1 := Pl.one k1)
    | (go_at_call 19; refine (hS _ _ _ _ _ _ _ _ _ _ _ m0.rd m1.rd s0 s1).mono ?_; rintro e v1 ⟨rfl, hb⟩; clear m0 m1 s0 s1; clear pa0 pa1; replace k0 := (hb.block _ (Pl.blk_lt k0)).trans k0; replace k1 := (hb.block _ (Pl.blk_lt k1)).trans k1; replace r0 := r0.below hb; replace r1 := r1.below hb; replace B0 := Rw.next B0 hb; clear hb; have pa0 := Pl.one k0; have pa1 := Pl.one k1))
  have t3 : True := trivial
  go_wp2_with (go_at_call 20; clear t3; refine (St.toSt_room _ _ _ _ _ _ r0).mono ?_; rintro e wx ⟨g0, X0, rfl, hb, m0, s0⟩; clear pa0 pa1; replace k0 := (hb.block _ (Pl.blk_lt k0)).trans k0; replace k1 := (hb.block _ (Pl.blk_lt k1)).trans k1; replace r0 := r0.below hb; replace r1 := r1.below hb; replace B0 := Rw.next B0 hb; clear hb; have pa0 := Pl.one k0; have pa1 := Pl.one k1; have lt1 := Pl.blk_lt k1)
  obtain ⟨Wx, hWx⟩ : ∃ Wx, Wx = wx.alloc (.cells #[.slice (some ⟨g0, 0, none⟩) X0.length X0.length] 25) := ⟨_, rfl⟩
  have kx : Wx.heap[wx.heap.size]? = some (.cells #[.slice (some ⟨g0, 0, none⟩) X0.length X0.length] 25 (0, 0)) := by subst hWx; exact Pl.at_new rfl
  have hb : Below wx.heap.size wx Wx := by subst hWx; exact Pl.below_alloc1 _ _
  replace m0 := m0.below hb
  replace k0 := (hb.block _ (Pl.blk_lt k0)).trans k0; replace k1 := (hb.block _ (Pl.blk_lt k1)).trans k1; replace r0 := r0.below hb; replace r1 := r1.below hb; replace B0 := Rw.next B0 hb; clear hb
  have t4 : True := trivial
  go_wp2_with (go_at_call 21; clear t4; rw [← hWx]; clear hWx lt1; refine (Ch.toDl_any _ _ _ _ _ _ r1).mono ?_; rintro e wy ⟨g1, X1, rfl, hb, m1, s1⟩; clear pa0 pa1; replace kx := (hb.block _ (Pl.blk_lt kx)).trans kx; replace m0 := m0.below hb; replace k0 := (hb.block _ (Pl.blk_lt k0)).trans k0; replace k1 := (hb.block _ (Pl.blk_lt k1)).trans k1; replace r0 := r0.below hb; replace r1 := r1.below hb; replace B0 := Rw.next B0 hb; clear hb; have pa0 := Pl.one k0; have pa1 := Pl.one k1; have za0 := Pl.one kx; have ltx := Pl.blk_lt kx)
  obtain ⟨Wy, hWy⟩ : ∃ Wy, Wy = wy.alloc (.cells #[.slice (some ⟨g1, 0, none⟩) X1.length X1.length] 30) := ⟨_, rfl⟩
  have ky : Wy.heap[wy.heap.size]? = some (.cells #[.slice (some ⟨g1, 0, none⟩) X1.length X1.length] 30 (0, 0)) := by subst hWy; exact Pl.at_new rfl
  have hb : Below wy.heap.size wy Wy := by subst hWy; exact Pl.below_alloc1 _ _
  replace m1 := m1.below hb
  replace kx := (hb.block _ (Pl.blk_lt kx)).trans kx
  replace m0 := m0.below hb
  replace k0 := (hb.block _ (Pl.blk_lt k0)).trans k0; replace k1 := (hb.block _ (Pl.blk_lt k1)).trans k1; replace r0 := r0.below hb; replace r1 := r1.below hb; replace B0 := Rw.next B0 hb; clear hb
  have za1 : True := trivial
  go_wp2_with (go_at_call 22; rw [← hWy]; clear hWy ltx; refine (hI _ _ _ _ _ _ _ _ _ _ _ m0.rd m1.rd s0 s1).mono ?_; rintro e w3 ⟨rfl, hb⟩; clear pa0 pa1 za0 za1; replace k0 := (hb.block _ (Pl.blk_lt k0)).trans k0; replace k1 := (hb.block _ (Pl.blk_lt k1)).trans k1; replace kx := (hb.block _ (Pl.blk_lt kx)).trans kx; replace ky := (hb.block _ (Pl.blk_lt ky)).trans ky; replace r0 := r0.below hb; replace r1 := r1.below hb; replace m0 := m0.below hb; replace m1 := m1.below hb; replace B0 := Rw.next B0 hb; clear hb; have pa0 := Pl.one k0; have pa1 := Pl.one k1; have za0 := Pl.one kx; have za1 := Pl.one ky)
  go_region_held3 (fun w' => w'.cell? ⟨wx.heap.size, 0, none⟩ = some (.slice (some ⟨g0, 0, none⟩) X0.length X0.length) ∧ w'.cell? ⟨w.heap.size, 0, none⟩ = some (.slice a0 Q0.length c0) ∧ w'.cell? ⟨w.heap.size + 1, 0, none⟩ = some (.slice a1 Q1.length c1) ∧ w'.cell? ⟨wy.heap.size, 0, none⟩ = some (.slice (some ⟨g1, 0, none⟩) X1.length X1.length)) (go_keep) (first
    | (go_at_call 20; refine (St.toSt_room _ _ _ _ _ _ (r0.below ((Below.refl _ _).drew))).mono ?_; rintro e w4 ⟨g2, X2, rfl, hb, m2, s2⟩; replace hb := Rw.next ((Below.refl _ _).drew) hb; clear pa0 pa1 za0 za1; replace k0 := (hb.block _ (Pl.blk_lt k0)).trans k0; replace k1 := (hb.block _ (Pl.blk_lt k1)).trans k1; replace kx := (hb.block _ (Pl.blk_lt kx)).trans kx; replace ky := (hb.block _ (Pl.blk_lt ky)).trans ky; replace r0 := r0.below hb; replace r1 := r1.below hb; replace m0 := m0.below hb; replace m1 := m1.below hb; replace B0 := Rw.next B0 hb; clear hb; have pa0 := Pl.one k0; have pa1 := Pl.one k1; have za0 := Pl.one kx; have za1 := Pl.one ky)
    | (go_at_call 23; refine (St.eqSt_same _ _ _ _ _ _ _ _ _ _ _ m0.rd m2.rd (s0.1.trans s2.1.symm)).mono ?_; rintro e w5 ⟨rfl, hb⟩; clear m2 s2; clear pa0 pa1 za0 za1; replace k0 := (hb.block _ (Pl.blk_lt k0)).trans k0; replace k1 := (hb.block _ (Pl.blk_lt k1)).trans k1; replace kx := (hb.block _ (Pl.blk_lt kx)).trans kx; replace ky := (hb.block _ (Pl.blk_lt ky)).trans ky; replace r0 := r0.below hb; replace r1 := r1.below hb; replace m0 := m0.below hb; replace m1 := m1.below hb; replace B0 := Rw.next B0 hb; clear hb; have pa0 := Pl.one k0; have pa1 := Pl.one k1; have za0 := Pl.one kx; have za1 := Pl.one ky))
  go_wp2
  go_region_held3 (fun w' => w'.cell? ⟨wy.heap.size, 0, none⟩ = some (.slice (some ⟨g1, 0, none⟩) X1.length X1.length) ∧ w'.cell? ⟨w.heap.size, 0, none⟩ = some (.slice a0 Q0.length c0) ∧ w'.cell? ⟨w.heap.size + 1, 0, none⟩ = some (.slice a1 Q1.length c1) ∧ w'.cell? ⟨wx.heap.size, 0, none⟩ = some (.slice (some ⟨g0, 0, none⟩) X0.length X0.length)) (go_keep) (first
    | (go_at_call 21; refine (Ch.toDl_any _ _ _ _ _ _ (r1.below ((Below.refl _ _).drew))).mono ?_; rintro e w4 ⟨g2, X2, rfl, hb, m2, s2⟩; replace hb := Rw.next ((Below.refl _ _).drew) hb; clear pa0 pa1 za0 za1; replace k0 := (hb.block _ (Pl.blk_lt k0)).trans k0; replace k1 := (hb.block _ (Pl.blk_lt k1)).trans k1; replace kx := (hb.block _ (Pl.blk_lt kx)).trans kx; replace ky := (hb.block _ (Pl.blk_lt ky)).trans ky; replace r0 := r0.below hb; replace r1 := r1.below hb; replace m0 := m0.below hb; replace m1 := m1.below hb; replace B0 := Rw.next B0 hb; clear hb; have pa0 := Pl.one k0; have pa1 := Pl.one k1; have za0 := Pl.one kx; have za1 := Pl.one ky)
    | (go_at_call 24; refine (Ch.eqDl_same _ _ _ _ _ _ _ _ _ _ _ m1.rd m2.rd (s1.1.trans s2.1.symm)).mono ?_; rintro e w5 ⟨rfl, hb⟩; clear m2 s2; clear pa0 pa1 za0 za1; replace k0 := (hb.block _ (Pl.blk_lt k0)).trans k0; replace k1 := (hb.block _ (Pl.blk_lt k1)).trans k1; replace kx := (hb.block _ (Pl.blk_lt kx)).trans kx; replace ky := (hb.block _ (Pl.blk_lt ky)).trans ky; replace r0 := r0.below hb; replace r1 := r1.below hb; replace m0 := m0.below hb; replace m1 := m1.below hb; replace B0 := Rw.next B0 hb; clear hb; have pa0 := Pl.one k0; have pa1 := Pl.one k1; have za0 := Pl.one kx; have za1 := Pl.one ky))
  go_wp2
  go_ret
  exact ⟨rfl, B0⟩

set_option maxRecDepth 100000 in
theorem lifted (os : Os) (started : os.Started) (H : Type) (enc : TypeId × Value → H) :
    ReturnsInHanded {} Tryz.checked os 5 .any (Rows.fnExactDeltaFitsSpec.pre6 enc Tryz.prog Tryz.f5 Rows.fnExactDeltaFitsRow.domain false) (Rows.fnExactDeltaFitsSpec.post enc Tryz.prog Tryz.f5 false true false false) := by
  refine returnsInHanded_of_change (C := Tryz.checked) own started (by kernel_rfl) Tryz.func5
    (ChangeSpec.witness6 (enc := enc) (C := Tryz.checked) false ⟨#[], #[.agg #[.slice none 0 0], .agg #[.slice none 0 0]], []⟩ 8 (by kernel_rfl) (by kernel_rfl) (by kernel_rfl) (by kernel_rfl)) ?_
  intro W base args ds gs before hval0 hW hcnd _
  have hval : ∀ (j : Nat) t v, Tryz.f5.params[j]? = some t → args[j]? = some v → Value.okWide Tryz.prog W .any base t v := hval0
  have hW' := hW
  obtain ⟨p, q, hA0, hV, rfl, hfz, hnd⟩ := hW
  have hA : DataW.TrodAll enc Tryz.prog W 0 (fun _ => true) true Tryz.f5.params.toList args.toList ds p := hA0
  rw [Tryz.params5] at hA hval
  obtain ⟨v0, vs0, d0, ds0, p0, q0, hargs, rfl, rfl, h0, r0⟩ := trodAll_cons hA
  obtain ⟨v1, vs1, d1, ds1, p1, q1, rfl, rfl, rfl, h1, r1⟩ := trodAll_cons r0
  obtain ⟨rfl, rfl, rfl⟩ := trodAll_nil r1
  obtain rfl : args = #[v0, v1] := by cases args; simp_all
  obtain ⟨rfl, rfl⟩ := trodVars_none hV
  have k0 := h0
  have lt0 : ∀ x ∈ p0, x.block < W.heap.size := by obtain ⟨m, hm⟩ := k0; exact DataW.trod_lt m _ _ _ hm
  obtain ⟨a0, c0, T0, rfl, w0⟩ := St.open_store (hval 0 44 v0 rfl rfl) h0
  have k1 := h1
  have lt1 : ∀ x ∈ p1, x.block < W.heap.size := by obtain ⟨m, hm⟩ := k1; exact DataW.trod_lt m _ _ _ hm
  obtain ⟨a1, c1, T1, rfl, w1⟩ := Ch.open_delta (hval 1 47 v1 rfl rfl) h1
  clear hA0 hval0
  refine (walk a0 c0 T0 a1 c1 T1 W w0 w1).mono fun e W' ⟨he, bel⟩ => ?_
  subst he
  exact ⟨_, rfl, _, _, _, [], _, [], hW', trodAll_mk1 (shut_bool Tryz.underlying4 _), (trodAll_cons_mk (Below.trod laidOut (by kernel_rfl) (of_decide_eq_true (by kernel_rfl)) k0 bel lt0) (trodAll_cons_mk (Below.trod laidOut (by kernel_rfl) (of_decide_eq_true (by kernel_rfl)) k1 bel lt1) trodAll_mk0)), rfl, bel.frame _, fun h => by cases h⟩

theorem over : Rows.fnExactDeltaFitsRow.holds Tryz.pinned (OpenSpec.ofChange Rows.fnExactDeltaFitsSpec) :=
  OpenClaim.holds_of_wide 5 Tryz.f5 rfl rfl rfl rfl rfl rfl rfl ⟨rfl, rfl, rfl, rfl, rfl⟩ rfl rfl rfl rfl rfl (by kernel_rfl) Tryz.func5 (by kernel_rfl)
    (of_decide_eq_true (by kernel_rfl)) (by unfold Func.isWrapper; first | (rw [if_pos (by decide +kernel)]; kernel_rfl) | (rw [if_neg (by decide +kernel)]; exact ⟨rfl, rfl⟩))
    (fun os started H enc _ => lifted os started H enc)

theorem proved : Rows.FnExactDeltaFitsSaid := over
end Go.Proofs.YtkpchlojapkimaaGreat.fnExactDeltaFits

namespace Go.Proofs.YtkpchlojapkimaaGreat
theorem FnExactDeltaFits_holds : Rows.FnExactDeltaFitsSaid := fnExactDeltaFits.proved
end Go.Proofs.YtkpchlojapkimaaGreat
