/- At every store the program and the specification write the same bytes and tell the same verdict; the answer owns its memory, and the argument reads as before; no condition. -/
import Derived.Test.YtecnbenlmbppbaaRows
import Derived.Test.YtecnbenlmbppbaaSy
import Derived.Test.YtecnbenlmbppbaaMs
import Derived.Test.YtecnbenlmbppbaaMkb
import Derived.Test.YtecnbenlmbppbaaSd
import Derived.WalkKit
import Derived.ProofKit
import Derived.OpenShut
import Derived.ShutString
import Derived.ChangeOld
import Derived.Below
import Derived.Deep.RegionWith
import Derived.Deep.RegionHeld3
namespace Go.Proofs.Ytecnbenlmbppbaa.fnExactStoreBytes
open Go.ChangeShapes Go.WideShapes Go.ChangeAt Go.RowKit
open Go.ChangeMaps (open_string shut_string)
set_option linter.unusedVariables false
set_option linter.unusedSimpArgs false

theorem own : ownKnob Try.prog.godebug = none := by kernel_rfl
theorem laidOut : laidOutB Try.prog = true := by kernel_rfl

set_option maxRecDepth 8000 in
set_option maxHeartbeats 16000000 in
theorem walk (a0 : Option Addr) (c0 : Nat) (T0 : List St.Raw) (w : World) (w0 : St.IsSt w a0 T0) :
    Calls Try.prog 5 #[.agg #[.slice a0 T0.length c0]] w fun e w' => e = .returned (.bool true) ∧ Below w.heap.size w w' := by
  obtain ⟨W0, hW0⟩ : ∃ W0, W0 = w.alloc (.cells #[.slice a0 T0.length c0] 24) := ⟨_, rfl⟩
  have B0 : Below w.heap.size w W0 := by subst hW0; exact Pl.below_alloc1 _ _
  have k0 : W0.heap[w.heap.size]? = some (.cells #[.slice a0 T0.length c0] 24 (0, 0)) := by subst hW0; exact Pl.at_new rfl
  replace w0 := w0.below B0
  by_cases hbig : 1048576 < T0.length + St.totN T0 T0.length
  · have hZ := St.szSt_big a0 c0 1048576 T0 W0 w0 hbig (Nat.le_refl _)
    go_enter Try.func5, Try.ntmps5
    go_wp2_with (go_at_call 7; rw [← hW0]; clear hW0; refine hZ.mono ?_; rintro e v1 ⟨rfl, hb⟩)
    go_ret
    exact ⟨rfl, Rw.next B0 hb⟩
  obtain ⟨L9, hL⟩ : ∃ L9 : Nat, T0.length + St.totN T0 T0.length + L9 = 1048576 := ⟨1048576 - (T0.length + St.totN T0 T0.length), by omega⟩
  have hZ0 := St.szSt_at a0 c0 1048576 L9 T0 W0 w0 hL (Nat.le_refl _)
  have hp : ¬ ((L9 : Int) < 0) := by omega
  obtain ⟨b0, o0, Q0, r0, hQ0, hQE⟩ := St.rd_of_isSt w0 (by omega)
  have Hc0 : Hid (St.kN Q0 1 Q0.length ≤ 10000000) := (by have q := St.kN_raw hQ0 hQE Q0.length (Nat.le_refl _); rw [hQ0] at q ⊢; omega : St.kN Q0 1 Q0.length ≤ 10000000)
  rw [← hQ0] at hZ0 hW0 k0 ⊢
  clear hQ0 hQE w0 hbig hL
  obtain ⟨L, cc, hCA, hLl, hLy⟩ := Sw.BA_some (St.told Q0)
  have HLl : Hid (L.length ≤ 60000) := hLl
  have HLy : Hid (Rw.Byt L) := hLy
  clear hLl hLy
  have hS := fun a b off c P W h (e : St.told P = St.told Q0) => Sw.bytesS_any a b off c P W h L cc (by rw [e]; exact hCA)
  have hI := fun a b off c P W h (e : St.told P = St.told Q0) => Sw.bytesI_any a b off c P W h L cc (by rw [e]; exact hCA)
  clear hCA
  have t1 : True := trivial
  go_enter Try.func5, Try.ntmps5
  go_wp2_with (first
    | (go_at_call 7; clear t1; rw [← hW0]; clear hW0; refine hZ0.mono ?_; rintro e v0 ⟨rfl, hb⟩; clear hZ0; replace k0 := (hb.block _ (Pl.blk_lt k0)).trans k0; replace r0 := r0.below hb; replace B0 := Rw.next B0 hb; clear hb; have pa := Pl.one k0; have l0 := Pl.blk_lt k0; have t2 : True := trivial)
    | (go_at_call 9; clear t2; clear pa l0; refine (St.toSt_any _ _ _ _ _ _ r0).mono ?_; rintro e wa ⟨g0, X0, rfl, hb, m0, s0⟩; replace k0 := (hb.block _ (Pl.blk_lt k0)).trans k0; replace r0 := r0.below hb; replace B0 := Rw.next B0 hb; clear hb; have pa := Pl.one k0; have l0 := Pl.blk_lt k0; have t4 : True := trivial)
    | (go_at_call 18; clear t4; clear pa l0; refine (hS _ _ _ _ _ _ m0.rd s0).mono ?_; rintro e V0 ⟨v4, rfl, hot, hb⟩; obtain ⟨aW, gW, cW, rfl, mW0, _⟩ := Sw.own_wt hot (by have := HLl.out; omega) HLy.out; have mW := mW0.rd; clear m0 s0 hot mW0; replace k0 := (hb.block _ (Pl.blk_lt k0)).trans k0; replace r0 := r0.below hb; replace B0 := Rw.next B0 hb; clear hb; have pa := Pl.one k0; have l0 := Pl.blk_lt k0; have HK0 : Hid (V0.heap[w.heap.size]? = some (.cells #[.slice a0 Q0.length c0] 24 (0, 0))) := k0; have HMW : Hid (Rw.Rd V0 aW gW 0 L) := mW; have HR0 : Hid (St.Rd V0 a0 b0 o0 Q0) := r0; have HBW : Hid (Below w.heap.size w V0) := B0; have BC : Below V0.heap.size V0 V0 := Below.refl _ _; clear mW r0 B0; have t5 : True := trivial)
    | (go_at_call 9; clear t5; clear pa l0; clear k0; refine (St.toSt_any _ _ _ _ _ _ HR0.out).mono ?_; rintro e wx ⟨g0, X0, rfl, hb, m0, s0⟩; have n1 := hb.size; have hgl : X0.length ≠ 0 → g0 < wx.heap.size := fun h => Pl.blk_lt (m0.blk.resolve_left h).2.choose_spec; replace BC := Rw.next BC hb; clear hb; have t6 : True := trivial)
    | (go_at_call 19; clear t6; obtain ⟨W2, hW2⟩ : ∃ W2, W2 = wx.alloc (.cells #[.slice (some ⟨g0, 0, none⟩) X0.length X0.length] 29) := ⟨_, rfl⟩; rw [← hW2]; have kx : W2.heap[wx.heap.size]? = some (.cells #[.slice (some ⟨g0, 0, none⟩) X0.length X0.length] 29 (0, 0)) := (by subst hW2; exact Pl.at_new rfl); have hb : Below wx.heap.size wx W2 := (by subst hW2; exact Pl.below_alloc1 _ _); clear hW2; replace m0 := m0.below hb; replace BC := Rw.next BC hb; clear hb; have n2 := Pl.blk_lt kx; refine (hI _ _ _ _ _ _ m0.rd s0).mono ?_; rintro e wz ⟨v5, rfl, hot, hb⟩; have n5 := hb.size; obtain ⟨aI, gI, cI, rfl, mI, n6⟩ := Sw.own_wt hot (by have := HLl.out; omega) HLy.out; replace kx := (hb.block _ (Pl.blk_lt kx)).trans kx; replace m0 := m0.below hb; replace BC := Rw.next BC hb; clear hb; have HN1 : Hid (V0.heap.size ≤ wx.heap.size ∧ wx.heap.size < W2.heap.size) := ⟨n1, n2⟩; have HN2 : Hid (W2.heap.size ≤ gI) := n6; clear n1 n2 n5 n6 hot; have t8 : True := trivial)
    | (go_at_call 20; clear t8; refine (Rw.eqByteS_any _ _ _ _ _ _ _ _ L L _ mI.rd (HMW.out.below BC)).mono ?_; rw [decide_eq_true rfl]; rintro e w5 ⟨rfl, hb⟩; replace kx := (hb.block _ (Pl.blk_lt kx)).trans kx; replace m0 := m0.below hb; replace mI := mI.below hb; replace BC := Rw.next BC hb; clear hb; have k0c := (BC.block _ (Pl.blk_lt HK0.out)).trans HK0.out; have pa := Pl.one k0c; have lk0 := Pl.blk_lt k0c; have xa := Pl.one kx))
  go_region_held3 (fun w' => w'.cell? ⟨wx.heap.size, 0, none⟩ = some (.slice (some ⟨g0, 0, none⟩) X0.length X0.length) ∧ w'.cell? ⟨w.heap.size, 0, none⟩ = some (.slice a0 Q0.length c0)) (go_keep) (first
    | (go_at_call 9; clear k0c pa lk0; clear xa; refine (St.toSt_any _ _ _ _ _ _ (HR0.out.below (Rw.next BC ((Below.refl _ _).drew)))).mono ?_; rintro e w6 ⟨g2, X2, rfl, hb, m2, s2⟩; replace hb := Rw.next ((Below.refl _ _).drew) hb; replace kx := (hb.block _ (Pl.blk_lt kx)).trans kx; replace m0 := m0.below hb; replace mI := mI.below hb; replace BC := Rw.next BC hb; clear hb; have k0c := (BC.block _ (Pl.blk_lt HK0.out)).trans HK0.out; have pa := Pl.one k0c; have lk0 := Pl.blk_lt k0c; have xa := Pl.one kx)
    | (go_at_call 11; clear k0c pa lk0; clear xa; refine (St.eqSt_same _ _ _ _ _ _ _ _ _ _ _ m0.rd m2.rd (s0.trans s2.symm)).mono ?_; rintro e w7 ⟨rfl, hb⟩; clear m2 s2; replace kx := (hb.block _ (Pl.blk_lt kx)).trans kx; replace m0 := m0.below hb; replace mI := mI.below hb; replace BC := Rw.next BC hb; clear hb; have k0c := (BC.block _ (Pl.blk_lt HK0.out)).trans HK0.out; have pa := Pl.one k0c; have lk0 := Pl.blk_lt k0c; have xa := Pl.one kx))
  clear k0c pa lk0
  have gl : X0.length ≠ 0 → g0 < wx.heap.size := hgl
  have HU0 : Hid (∀ z, St.UseN X0 g0 z → V0.heap.size ≤ z ∧ z < wx.heap.size) := fun z hu => St.own_use' m0 gl hu
  have HcX : Hid (St.kN X0 1 X0.length ≤ 10000000) := (by have e0 := St.kN_told s0 1 X0.length; have l0 : X0.length = Q0.length := (by rw [← St.told_len, ← St.told_len, s0]); rw [l0] at e0 ⊢; have h0 := Hc0.out; omega : St.kN X0 1 X0.length ≤ 10000000)
  obtain ⟨Ka, hKa⟩ : ∃ Ka : Nat, Ka = St.kN X0 1 X0.length := ⟨_, rfl⟩
  have HKa : Hid (Ka = St.kN X0 1 X0.length) := hKa
  have hKan : ¬ ((Ka : Int) < 0) := by omega
  obtain ⟨Kc, hKc⟩ : ∃ Kc : Int, Kc = 1 + (L.length : Int) := ⟨_, rfl⟩
  have HKc : Hid (Kc = 1 + (L.length : Int)) := hKc
  have hKcn : ¬ (Kc < 0) := by omega
  clear hKa hKc
  have t5 : True := trivial
  go_wp2_with (first
    | (go_at_call 15; clear t5 xa; refine (St.markSt_any 1 (by omega) _ g0 _ V0.heap.size wx.heap.size X0 _ m0 (Nat.le_trans HcX.out (by omega))).mono ?_; rw [← HKa.out]; rintro e wA ⟨rfl, kp, _⟩; replace mI := mI.keep (fun h0 => kp.block _ (mI.lt h0) (fun hu => by have q := HU0.out _ hu; have hN1 := HN1.out; have hN2 := HN2.out; omega)); replace BC := kp.below BC BC.size (fun z hu => by have q := HU0.out _ hu; omega); clear kp m0 kx; have t7 : True := trivial)
    | (go_at_call 20; clear t7; refine (Rw.eqByteS_any _ _ _ _ _ _ _ _ L L _ mI.rd (HMW.out.below BC)).mono ?_; rw [decide_eq_true rfl]; rintro e wC ⟨rfl, hb⟩; replace mI := mI.below hb; replace BC := Rw.next BC hb; clear hb; have t8 : True := trivial)
    | (go_at_call 21; clear t8; refine (Mk.mark_any _ gI _ L _ mI).mono ?_; rw [← HKc.out]; rintro e wD ⟨rfl, kp, mk⟩; replace BC := Mk.Only.below kp BC BC.size (by have hN1 := HN1.out; have hN2 := HN2.out; omega); clear kp mI; have t9 : True := trivial)
    | (go_at_call 22; clear t9; refine (Mk.held_any _ gI _ L.length _ mk).mono ?_; rw [← HKc.out]; rintro e wE ⟨rfl, hw⟩; replace hw := hw.symm; subst hw; have k0c := (BC.block _ (Pl.blk_lt HK0.out)).trans HK0.out; have pa := Pl.one k0c; have lk0 := Pl.blk_lt k0c; have u1 : True := trivial)
    | (go_at_call 9; clear u1; clear k0c pa lk0; refine (St.toSt_any _ _ _ _ _ _ (HR0.out.below BC)).mono ?_; rintro e wF ⟨g3, X3, rfl, hb, m3, s3⟩; replace mk := mk.below hb; replace BC := Rw.next BC hb; clear hb; have u3 : True := trivial)
    | (go_at_call 19; clear u3; refine (hI _ _ _ _ _ _ m3.rd s3).mono ?_; rintro e wH ⟨v6, rfl, hot, hb⟩; obtain ⟨aH, gH, cH, rfl, mH0, _⟩ := Sw.own_wt hot (by have := HLl.out; omega) HLy.out; have mH := mH0.rd; clear m3 s3 hot mH0; replace mk := mk.below hb; replace BC := Rw.next BC hb; clear hb; have u4 : True := trivial)
    | (go_at_call 20; clear u4; refine (Rw.eqByteS_any _ _ _ _ _ _ _ _ L L _ mH (HMW.out.below BC)).mono ?_; rw [decide_eq_true rfl]; rintro e wJ ⟨rfl, hb⟩; replace mk := mk.below hb; replace BC := Rw.next BC hb; clear hb; have u5 : True := trivial)
    | (go_at_call 22; clear u5; refine (Mk.held_any _ gI _ L.length _ mk).mono ?_; rw [← HKc.out]; rintro e wK ⟨rfl, hw⟩; replace hw := hw.symm; subst hw))
  go_ret
  exact ⟨rfl, Rw.next HBW.out BC⟩

set_option maxRecDepth 100000 in
theorem lifted (os : Os) (started : os.Started) (H : Type) (enc : TypeId × Value → H) :
    ReturnsInHanded {} Try.checked os 5 .any (Rows.fnExactStoreBytesSpec.pre6 enc Try.prog Try.f5 Rows.fnExactStoreBytesRow.domain false) (Rows.fnExactStoreBytesSpec.post enc Try.prog Try.f5 false true false false) := by
  refine returnsInHanded_of_change (C := Try.checked) own started (by kernel_rfl) Try.func5
    (ChangeSpec.witness6 (enc := enc) (C := Try.checked) false ⟨#[], #[.agg #[.slice none 0 0]], []⟩ 8 (by kernel_rfl) (by kernel_rfl) (by kernel_rfl) (by kernel_rfl)) ?_
  intro W base args ds gs before hval0 hW hcnd _
  have hval : ∀ (j : Nat) t v, Try.f5.params[j]? = some t → args[j]? = some v → Value.okWide Try.prog W .any base t v := hval0
  have hW' := hW
  obtain ⟨p, q, hA0, hV, rfl, hfz, hnd⟩ := hW
  have hA : DataW.TrodAll enc Try.prog W 0 (fun _ => true) true Try.f5.params.toList args.toList ds p := hA0
  rw [Try.params5] at hA hval
  obtain ⟨v0, vs0, d0, ds0, p0, q0, hargs, rfl, rfl, h0, r0⟩ := trodAll_cons hA
  obtain ⟨rfl, rfl, rfl⟩ := trodAll_nil r0
  obtain rfl : args = #[v0] := by cases args; simp_all
  obtain ⟨rfl, rfl⟩ := trodVars_none hV
  have k0 := h0
  have lt0 : ∀ x ∈ p0, x.block < W.heap.size := by obtain ⟨m, hm⟩ := k0; exact DataW.trod_lt m _ _ _ hm
  obtain ⟨a0, c0, T0, rfl, w0⟩ := St.open_store (hval 0 24 v0 rfl rfl) h0
  clear hA0 hval0
  refine (walk a0 c0 T0 W w0).mono fun e W' ⟨he, bel⟩ => ?_
  subst he
  exact ⟨_, rfl, _, _, _, [], _, [], hW', trodAll_mk1 (shut_bool Try.underlying4 _), (trodAll_cons_mk (Below.trod laidOut (by kernel_rfl) (of_decide_eq_true (by kernel_rfl)) k0 bel lt0) trodAll_mk0), rfl, bel.frame _, fun h => by cases h⟩

theorem over : Rows.fnExactStoreBytesRow.holds Try.pinned (OpenSpec.ofChange Rows.fnExactStoreBytesSpec) :=
  OpenClaim.holds_of_wide 5 Try.f5 rfl rfl rfl rfl rfl rfl rfl ⟨rfl, rfl, rfl, rfl, rfl⟩ rfl rfl rfl rfl rfl (by kernel_rfl) Try.func5 (by kernel_rfl)
    (of_decide_eq_true (by kernel_rfl)) (by unfold Func.isWrapper; first | (rw [if_pos (by decide +kernel)]; kernel_rfl) | (rw [if_neg (by decide +kernel)]; exact ⟨rfl, rfl⟩))
    (fun os started H enc _ => lifted os started H enc)

theorem proved : Rows.FnExactStoreBytesSaid := over
end Go.Proofs.Ytecnbenlmbppbaa.fnExactStoreBytes

namespace Go.Proofs.Ytecnbenlmbppbaa
theorem FnExactStoreBytes_holds : Rows.FnExactStoreBytesSaid := fnExactStoreBytes.proved
end Go.Proofs.Ytecnbenlmbppbaa
