/- At every change of stores the program and the specification hand back the same change; the answer owns its memory, and the argument reads as before; no condition. -/
import Derived.Test.YtkpchlojapkimaaRows
import Derived.Test.YtkpchlojapkimaaEq
import Derived.Test.YtkpchlojapkimaaEd
import Derived.WalkKit
import Derived.ProofKit
import Derived.OpenShut
import Derived.ShutString
import Derived.ChangeOld
import Derived.Below
import Derived.Deep.RegionWith
import Derived.Deep.RegionHeld3
namespace Go.Proofs.Ytkpchlojapkimaa.fnExactDeltaBack
open Go.ChangeShapes Go.WideShapes Go.ChangeAt Go.RowKit
open Go.ChangeMaps (open_string shut_string)
set_option linter.unusedVariables false
set_option linter.unusedSimpArgs false

theorem own : ownKnob Try.prog.godebug = none := by kernel_rfl
theorem laidOut : laidOutB Try.prog = true := by kernel_rfl

/-- The answer lies in its box. -/
theorem fin1 {wc : World} {T LO hi gW cW : Nat} {aW : Option Addr} {FW : List Ch.Cm} {x0 : Value} (r : Ch.Own wc LO hi aW gW FW) (k : wc.heap[T]? = some (.cells #[x0] 29 (0, 0))) (hT : T < LO) :
    (wc.setCell ⟨T, 0, none⟩ (.slice aW FW.length cW)).heap[T]? = some (.cells #[.slice aW FW.length cW] 29 (0, 0)) ∧ Ch.Rd (wc.setCell ⟨T, 0, none⟩ (.slice aW FW.length cW)) aW gW 0 FW :=
  ⟨Ch.one_set k, (r.set hT).rd⟩
theorem box {w : World} {cs : Array Value} {t : TypeId} : (w.alloc (.cells cs t)).heap[w.heap.size]? = some (.cells cs t (0, 0)) := Pl.at_new rfl

set_option maxRecDepth 8000 in
set_option maxHeartbeats 16000000 in
theorem walk (a0 : Option Addr) (c0 : Nat) (T0 : List Ch.Raw) (w : World) (w0 : Ch.IsDl w a0 T0) :
    Calls Try.prog 5 #[.agg #[.slice a0 T0.length c0]] w fun e w' => e = .returned (.bool true) ∧ Below w.heap.size w w' := by
  obtain ⟨W0, hW0⟩ : ∃ W0, W0 = (w.alloc (.cells #[.slice a0 T0.length c0] 24)) := ⟨_, rfl⟩
  have B0 : Below w.heap.size w W0 := by subst hW0; exact Pl.below_alloc1 _ _
  have k0 : W0.heap[w.heap.size]? = some (.cells #[.slice a0 T0.length c0] 24 (0, 0)) := by subst hW0; exact Pl.at_new (by simp)
  replace w0 := w0.below B0
  have t1 : True := trivial
  by_cases hbig : 1048576 < T0.length + Ch.totC T0 T0.length
  · have hY := Ch.szDl_big a0 c0 1048576 T0 W0 w0 hbig (Nat.le_refl _)
    go_enter Try.func5, Try.ntmps5
    go_wp2_with (first
      | (go_at_call 6; clear t1; rw [← hW0]; clear hW0; refine (hY).mono ?_; rintro e v0 ⟨rfl, hb⟩))
    go_ret
    exact ⟨rfl, Rw.next B0 hb⟩
  obtain ⟨L0, hL⟩ : ∃ L : Nat, T0.length + Ch.totC T0 T0.length + L = 1048576 := ⟨1048576 - (T0.length + Ch.totC T0 T0.length), by omega⟩
  have hZ0 := Ch.szDl_at a0 c0 1048576 L0 T0 W0 w0 hL (Nat.le_refl _)
  have hp0 : ¬ ((L0 : Int) < 0) := by omega
  have hLl0 : L0 ≤ 1048576 := by omega
  obtain ⟨b0, o0, Q0, r0, hQ0, hQE0⟩ := Ch.rd_of_isDl w0 (by omega)
  have Hc0 : Hid (Ch.kC Q0 1 Q0.length ≤ 10000000) := (by have q := Ch.kC_raw hQ0 hQE0 Q0.length (Nat.le_refl _); rw [hQ0] at q ⊢; omega : Ch.kC Q0 1 Q0.length ≤ 10000000)
  rw [← hQ0] at hZ0 hW0 k0 ⊢
  clear hQ0 hQE0 hbig hL
  clear hLl0
  obtain ⟨M, hCA, hMl, hM1⟩ := Ch.BA_some (Ch.told Q0)
  have HSl : Hid (∀ F : List Ch.Cm, Ch.told F = M → F.length ≤ 4194304) := fun F h => by rw [← Ch.told_len, h]; omega
  have HKM : Hid (∀ F : List Ch.Cm, Ch.told F = M → Ch.kC F 1 F.length ≤ 10000000) := fun F h => Ch.few_marks h hMl hM1
  clear hMl hM1
  have hS := fun a b off c P W => fun h (e : Ch.told P = Ch.told Q0) => Ch.backS_any a b off c P W h M (by rw [e]; exact hCA)
  have hI := fun a b off c P W => fun h hr (e : Ch.told P = Ch.told Q0) => Ch.backI_any a b off c P W h hr M (by rw [e]; exact hCA)
  clear hCA
  go_enter Try.func5, Try.ntmps5
  go_wp2_with (first
    | (go_at_call 6; clear t1; rw [← hW0]; clear hW0; refine (hZ0).mono ?_; rintro e v0 ⟨rfl, hb⟩; clear hZ0 w0; replace k0 := (hb.block _ (Pl.blk_lt k0)).trans k0; replace r0 := r0.below hb; replace B0 := Rw.next B0 hb; clear hb; have pa0 := Pl.one k0; have t2 : True := trivial))
  have t1 : True := trivial
  have BW : Below v0.heap.size v0 v0 := Below.refl _ _
  have HKa0 : Hid (v0.heap[w.heap.size]? = some (.cells #[.slice a0 Q0.length c0] 24 (0, 0))) := k0
  have HR0 : Hid (Ch.Rd v0 a0 b0 o0 Q0) := r0
  have HB0 : Hid (Below w.heap.size w v0) := B0
  go_wp2_with (first
    | (go_at_call 8; clear t1; clear pa0; refine (Ch.toDl_any _ _ _ _ _ _ r0).mono ?_; rintro e wa ⟨g0, X0, rfl, hb, m0, s0, rm0⟩; replace k0 := (hb.block _ (Pl.blk_lt k0)).trans k0; replace r0 := r0.below hb; replace BW := Rw.next BW hb; clear hb; have pa0 := Pl.one k0; have lk0 := Pl.blk_lt k0; have t2 : True := trivial)
    | (go_at_call 19; clear t2; clear lk0; clear pa0; refine (hS _ _ _ _ _ _ m0.rd s0).mono ?_; rintro e wS ⟨v4, FW, rfl, hos, sW, hb⟩; obtain ⟨aW, gW, cW, rfl, mW, _⟩ := hos.form (HSl.out FW sW); replace k0 := (hb.block _ (Pl.blk_lt k0)).trans k0; replace r0 := r0.below hb; replace BW := Rw.next BW hb; clear hb m0 s0 rm0 hos; have pa0 := Pl.one k0; have lk0 := Pl.blk_lt k0))
  obtain ⟨wc, hwc⟩ : ∃ wc, wc = wS.alloc (.cells #[.slice aW FW.length cW] 29) := ⟨_, rfl⟩
  obtain ⟨T, hT⟩ : ∃ T, T = wS.heap.size := ⟨_, rfl⟩
  have kT : wc.heap[T]? = some (.cells #[.slice aW FW.length cW] 29 (0, 0)) := by subst hwc hT; exact Pl.at_new rfl
  have hb1 : Below wS.heap.size wS wc := by subst hwc; exact Pl.below_alloc1 _ _
  replace mW := mW.rd.below hb1
  have hb := Rw.next BW hb1
  rw [← hwc, ← hT]
  clear BW pa0 k0 r0 B0 hb1 hwc hT lk0
  have split : True := trivial
  · clear split
    have HK0 : Hid (wc.heap[w.heap.size]? = some (.cells #[.slice a0 Q0.length c0] 24 (0, 0))) := (hb.block _ (Pl.blk_lt HKa0.out)).trans HKa0.out
    have HKT : Hid (wc.heap[T]? = some (.cells #[.slice aW FW.length cW] 29 (0, 0))) := kT
    have HMW : Hid (Ch.Rd wc aW gW 0 FW) := mW
    have HSW : Hid (Ch.told FW = M) := sW
    have BC0 : Hid (Below v0.heap.size v0 wc) := hb
    have HBW : Hid (Below w.heap.size w wc) := Rw.next HB0.out hb
    have BC : Below wc.heap.size wc wc := Below.refl _ _
    clear hb kT mW sW HKa0 HB0
    have kc0 := (BC.block _ (Pl.blk_lt HK0.out)).trans HK0.out
    have pa0 := Pl.one kc0
    have lk0 := Pl.blk_lt kc0
    have t1 : True := trivial
    go_wp2_with (first
      | (go_at_call 8; clear t1; clear kc0 pa0 lk0; refine (Ch.toDl_any _ _ _ _ _ _ (HR0.out.below BC0.out)).mono ?_; rintro e wx0 ⟨g0, X0, rfl, hb, m0, s0, rm0⟩; have n0 := hb.size; have hgl0 : X0.length ≠ 0 → g0 < wx0.heap.size := fun h => Pl.blk_lt (m0.blk.resolve_left h).2.choose_spec; replace BC := Rw.next BC hb; clear hb; have t2 : True := trivial)
      | (go_at_call 20; clear t2; obtain ⟨U1, hU1⟩ : ∃ U1, U1 = wx0.alloc (.cells #[.slice (some ⟨g0, 0, none⟩) X0.length X0.length] 29) := ⟨_, rfl⟩; rw [← hU1]; have kx0 : U1.heap[wx0.heap.size]? = some (.cells #[.slice (some ⟨g0, 0, none⟩) X0.length X0.length] 29 (0, 0)) := (by subst hU1; exact Pl.at_new rfl); have hb : Below wx0.heap.size wx0 U1 := (by subst hU1; exact Pl.below_alloc1 _ _); clear hU1; replace m0 := m0.below hb; replace BC := Rw.next BC hb; clear hb; have nn1 := Pl.blk_lt kx0; refine (hI _ _ _ _ _ _ m0.rd rm0 s0).mono ?_; rintro e wz ⟨v5, FI, rfl, hos, sI, hb⟩; have n9 := hb.size; obtain ⟨aI, gI, cI, rfl, mI, _⟩ := hos.form (HSl.out FI sI); have hgi : FI.length ≠ 0 → gI < wz.heap.size := fun h => Pl.blk_lt (mI.blk.resolve_left h).2.choose_spec; replace kx0 := (hb.block _ (Pl.blk_lt kx0)).trans kx0; replace m0 := m0.below hb; replace BC := Rw.next BC hb; clear hb; have HN1 : Hid (wc.heap.size ≤ wx0.heap.size ∧ wx0.heap.size < U1.heap.size ∧ U1.heap.size ≤ wz.heap.size) := ⟨n0, nn1, n9⟩; have HcF : Hid (Ch.kC FI 1 FI.length ≤ 10000000) := HKM.out FI sI; clear n0 nn1 n9 hos; have kTc := (BC.block _ (Pl.blk_lt HKT.out)).trans HKT.out; have ta := Pl.one kTc; have lkT := Pl.blk_lt kTc; have t3 : True := trivial)
      | (go_at_call 10; clear t3; clear kTc ta lkT; obtain ⟨U9, hU9⟩ : ∃ U9, U9 = wz.alloc (.cells #[.slice aI FI.length cI] 29) := ⟨_, rfl⟩; rw [← hU9]; have kI : U9.heap[wz.heap.size]? = some (.cells #[.slice aI FI.length cI] 29 (0, 0)) := (by subst hU9; exact Pl.at_new rfl); have hb : Below wz.heap.size wz U9 := (by subst hU9; exact Pl.below_alloc1 _ _); clear hU9; replace kx0 := (hb.block _ (Pl.blk_lt kx0)).trans kx0; replace m0 := m0.below hb; replace mI := mI.below hb; replace BC := Rw.next BC hb; clear hb; refine (Ch.eqDl_same _ _ _ _ _ _ _ _ FI FW _ mI.rd (HMW.out.below BC) (sI.trans HSW.out.symm)).mono ?_; rintro e w5 ⟨rfl, hb⟩; replace kx0 := (hb.block _ (Pl.blk_lt kx0)).trans kx0; replace kI := (hb.block _ (Pl.blk_lt kI)).trans kI; replace m0 := m0.below hb; replace mI := mI.below hb; replace BC := Rw.next BC hb; clear hb; have kc0 := (BC.block _ (Pl.blk_lt HK0.out)).trans HK0.out; have pa0 := Pl.one kc0; have lk0 := Pl.blk_lt kc0; have xa0 := Pl.one kx0))
    go_region_held3 (fun w' => w'.cell? ⟨wx0.heap.size, 0, none⟩ = some (.slice (some ⟨g0, 0, none⟩) X0.length X0.length) ∧ w'.cell? ⟨w.heap.size, 0, none⟩ = some (.slice a0 Q0.length c0)) (go_keep) (first
      | (go_at_call 8; clear kc0 pa0 lk0; clear xa0; refine (Ch.toDl_any _ _ _ _ _ _ (HR0.out.below (Rw.next (Rw.next BC0.out BC) ((Below.refl _ _).drew)))).mono ?_; rintro e w6 ⟨g9, X9, rfl, hb, m9, s9, _⟩; replace hb := Rw.next ((Below.refl _ _).drew) hb; replace kx0 := (hb.block _ (Pl.blk_lt kx0)).trans kx0; replace kI := (hb.block _ (Pl.blk_lt kI)).trans kI; replace m0 := m0.below hb; replace mI := mI.below hb; replace BC := Rw.next BC hb; clear hb; have kc0 := (BC.block _ (Pl.blk_lt HK0.out)).trans HK0.out; have pa0 := Pl.one kc0; have lk0 := Pl.blk_lt kc0; have xa0 := Pl.one kx0)
      | (go_at_call 10; clear kc0 pa0 lk0; clear xa0; refine (Ch.eqDl_same _ _ _ _ _ _ _ _ X0 X9 _ m0.rd m9.rd (s0.trans s9.symm)).mono ?_; rintro e w7 ⟨rfl, hb⟩; clear m9 s9; replace kx0 := (hb.block _ (Pl.blk_lt kx0)).trans kx0; replace kI := (hb.block _ (Pl.blk_lt kI)).trans kI; replace m0 := m0.below hb; replace mI := mI.below hb; replace BC := Rw.next BC hb; clear hb; have kc0 := (BC.block _ (Pl.blk_lt HK0.out)).trans HK0.out; have pa0 := Pl.one kc0; have lk0 := Pl.blk_lt kc0; have xa0 := Pl.one kx0))
    
    clear kc0 pa0 lk0
    clear xa0
    have xa0 := Pl.one kx0
    have HU0 : Hid (∀ z, Ch.UseC X0 g0 z → wc.heap.size ≤ z ∧ z < wx0.heap.size) := fun z hu => Ch.own_use' m0 hgl0 hu
    have HUI : Hid (∀ z, Ch.UseC FI gI z → U1.heap.size ≤ z ∧ z < wz.heap.size) := fun z hu => Ch.own_use' mI hgi hu
    have HcX0 : Hid (Ch.kC X0 1 X0.length ≤ 10000000) := (by have e0 := Ch.kC_told s0 1 X0.length; have l0 : X0.length = Q0.length := (by rw [← Ch.told_len, ← Ch.told_len, s0]); rw [l0] at e0 ⊢; have h0 := Hc0.out; omega : Ch.kC X0 1 X0.length ≤ 10000000)
    have HcB0 : Hid (Ch.kC X0 1 X0.length ≤ 10000000) := HcX0.out
    obtain ⟨K0, hK0⟩ : ∃ K : Nat, K = Ch.kC X0 1 X0.length := ⟨_, rfl⟩
    have HKe0 : Hid (K0 = Ch.kC X0 1 X0.length) := hK0
    have HKp0 : Hid (0 < K0) := (by rw [hK0]; have := Ch.kC_ge X0 1 X0.length; omega : 0 < K0)
    have HKb0 : Hid (K0 ≤ 10000000) := (by rw [hK0]; exact HcB0.out : K0 ≤ 10000000)
    have hKn0 : ¬ ((K0 : Int) < 0) := by omega
    clear hK0
    obtain ⟨Kc, hKc⟩ : ∃ Kc : Nat, Kc = Ch.kC FI 1 FI.length := ⟨_, rfl⟩
    have HKc : Hid (Kc = Ch.kC FI 1 FI.length) := hKc
    have hKcn : ¬ ((Kc : Int) < 0) := by omega
    clear hKc
    have t5 : True := trivial
    go_wp2_with (first
      | (go_at_call 17; clear t5 xa0; refine (Ch.markDl_any 1 (by omega) _ g0 _ wc.heap.size wx0.heap.size X0 _ m0 (Nat.le_trans HcB0.out (by omega))).mono ?_; rw [← HKe0.out]; rintro e wA0 ⟨rfl, kp, _⟩; have kk := kp.block _ (Pl.blk_lt kI) (fun hu => by have q := HU0.out _ hu; have hN1 := HN1.out; omega); replace kI := kk.trans kI; clear kk; replace mI := mI.keep (fun z hz hz2 => kp.block z hz2 (fun hu => by have q := HU0.out _ hu; have hN1 := HN1.out; omega)); replace BC := kp.below BC BC.size (fun z hu => by have q := HU0.out _ hu; have hN1 := HN1.out; omega); clear kp m0 kx0; have kTc := (BC.block _ (Pl.blk_lt HKT.out)).trans HKT.out; have ta := Pl.one kTc; have lkT := Pl.blk_lt kTc; have ia := Pl.one kI; have t6 : True := trivial)
      | (go_at_call 10; clear t6; clear kTc ta lkT; clear ia; refine (Ch.eqDl_same _ _ _ _ _ _ _ _ FI FW _ mI.rd (HMW.out.below BC) (sI.trans HSW.out.symm)).mono ?_; rintro e wC ⟨rfl, hb⟩; replace kI := (hb.block _ (Pl.blk_lt kI)).trans kI; replace mI := mI.below hb; replace BC := Rw.next BC hb; clear hb; have ia := Pl.one kI; have t7 : True := trivial)
      | (go_at_call 17; clear t7 ia; refine (Ch.markDl_any 1 (by omega) _ gI _ U1.heap.size wz.heap.size FI _ mI (Nat.le_trans HcF.out (by omega))).mono ?_; rw [← HKc.out]; rintro e wD ⟨rfl, kp, mk⟩; have kk := kp.block _ (Pl.blk_lt kI) (fun hu => by have q := HUI.out _ hu; have hN1 := HN1.out; omega); replace kI := kk.trans kI; clear kk; replace BC := kp.below BC BC.size (fun z hu => by have q := HUI.out _ hu; have hN1 := HN1.out; omega); clear kp mI; have ia := Pl.one kI; have t8 : True := trivial)
      | (go_at_call 18; clear t8 ia; refine (Ch.heldDl_any 1 (by omega) _ gI _ FI _ mk (Nat.le_trans HcF.out (by omega))).mono ?_; rw [← HKc.out]; rintro e wE ⟨rfl, hb⟩; replace kI := (hb.block _ (Pl.blk_lt kI)).trans kI; replace mk := mk.below hb; replace BC := Rw.next BC hb; clear hb; have kc0 := (BC.block _ (Pl.blk_lt HK0.out)).trans HK0.out; have pa0 := Pl.one kc0; have lk0 := Pl.blk_lt kc0))
    have k0 := (BC.block _ (Pl.blk_lt HK0.out)).trans HK0.out
    have r0 := HR0.out.below (Rw.next BC0.out BC)
    clear kc0
    have BW : Below wE.heap.size wE wE := Below.refl _ _
    have t1 : True := trivial
    have HKI : Hid (wE.heap[wz.heap.size]? = some (.cells #[.slice aI FI.length cI] 29 (0, 0)) ∧ Below wc.heap.size wc wE) := ⟨kI, BC⟩
    have HMk : Hid (Ch.MkC wE 1 aI gI FI) := mk
    have HBE : Hid (Below wc.heap.size wc wE) := BC
    clear kI mk s0 rm0
    go_wp2_with (first
      | (go_at_call 8; clear t1 lk0; clear pa0; refine (Ch.toDl_any _ _ _ _ _ _ r0).mono ?_; rintro e wa ⟨g0, X0, rfl, hb, m0, s0, rm0⟩; replace BW := Rw.next BW hb; replace BC := Rw.next BC hb; clear hb; have t2 : True := trivial)
      | (go_at_call 20; clear t2; refine (hI _ _ _ _ _ _ m0.rd rm0 s0).mono ?_; rintro e wS ⟨v4, FH, rfl, hos, sH, hb⟩; obtain ⟨aH, gH, cH, rfl, mH, _⟩ := hos.form (HSl.out FH sH); replace BW := Rw.next BW hb; replace BC := Rw.next BC hb; clear hb m0 s0 rm0 hos; have kTc := (BC.block _ (Pl.blk_lt HKT.out)).trans HKT.out; have ta := Pl.one kTc; have lkT := Pl.blk_lt kTc))
    clear kTc ta lkT
    obtain ⟨Wh, hWh⟩ : ∃ Wh, Wh = wS.alloc (.cells #[.slice aH FH.length cH] 29) := ⟨_, rfl⟩
    have hb1 : Below wS.heap.size wS Wh := by subst hWh; exact Pl.below_alloc1 _ _
    replace mH := mH.rd.below hb1
    have hb := Rw.next BW hb1
    have kI := (hb.block _ (Pl.blk_lt HKI.out.1)).trans HKI.out.1
    replace BC := Rw.next HKI.out.2 hb
    have mk := HMk.out.below hb
    rw [← hWh]
    clear hb HKI HMk hb1 BW hWh
    have tb : True := trivial
    go_wp2_with (first
      | (go_at_call 10; clear tb; refine (Ch.eqDl_same _ _ _ _ _ _ _ _ FH FW _ mH (HMW.out.below BC) (sH.trans HSW.out.symm)).mono ?_; rintro e wH ⟨rfl, hb⟩; replace kI := (hb.block _ (Pl.blk_lt kI)).trans kI; replace mk := mk.below hb; replace BC := Rw.next BC hb; clear hb; have ia := Pl.one kI; have tc : True := trivial)
      | (go_at_call 18; clear tc ia; refine (Ch.heldDl_any 1 (by omega) _ gI _ FI _ mk (Nat.le_trans HcF.out (by omega))).mono ?_; rw [← HKc.out]; rintro e wK ⟨rfl, hb⟩; replace BC := Rw.next BC hb))
    go_ret
    exact ⟨rfl, Rw.next HBW.out BC⟩

set_option maxRecDepth 100000 in
theorem lifted (os : Os) (started : os.Started) (H : Type) (enc : TypeId × Value → H) :
    ReturnsInHanded {} Try.checked os 5 .any (Rows.fnExactDeltaBackSpec.pre6 enc Try.prog Try.f5 Rows.fnExactDeltaBackRow.domain false) (Rows.fnExactDeltaBackSpec.post enc Try.prog Try.f5 false true false false) := by
  refine returnsInHanded_of_change (C := Try.checked) own started (by kernel_rfl) Try.func5
    (ChangeSpec.witness6 (enc := enc) (C := Try.checked) false ⟨#[], #[.agg #[.slice none 0 0]], []⟩ 8 (by kernel_rfl) (by kernel_rfl) (by kernel_rfl) (by kernel_rfl)) ?_
  intro W base args ds gs before hval0 hW hcnd _
  have hval : ∀ (j : Nat) t v, Try.f5.params[j]? = some t → args[j]? = some v → Value.okWide Try.prog W .any base t v := hval0
  have hW' := hW
  obtain ⟨p, q, hA0, hV, rfl, hfz, hnd⟩ := hW
  have hA : DataW.TrodAll enc Try.prog W 0 (fun _ => true) true Try.f5.params.toList args.toList ds p := hA0
  rw [Try.params5] at hA hval
  obtain ⟨v0, vs0, d0, ds0, p0, q0, hargs, rfl, rfl, h0, r0⟩ := trodAll_cons hA
  obtain ⟨rfl, rfl, rfl⟩ := trodAll_nil r0
  obtain rfl : args = #[v0] := by cases args; simp_all
  obtain ⟨rfl, rfl⟩ := trodVars_none hV
  have k0 := h0
  have lt0 : ∀ x ∈ p0, x.block < W.heap.size := by obtain ⟨m, hm⟩ := k0; exact DataW.trod_lt m _ _ _ hm
  obtain ⟨a0, c0, T0, rfl, w0⟩ := Ch.open_delta (hval 0 24 v0 rfl rfl) h0
  clear hA0 hval0
  refine (walk a0 c0 T0 W w0).mono fun e W' ⟨he, bel⟩ => ?_
  subst he
  exact ⟨_, rfl, _, _, _, [], _, [], hW', trodAll_mk1 (shut_bool Try.underlying4 _), (trodAll_cons_mk (Below.trod laidOut (by kernel_rfl) (of_decide_eq_true (by kernel_rfl)) k0 bel lt0) trodAll_mk0), rfl, bel.frame _, fun h => by cases h⟩

theorem over : Rows.fnExactDeltaBackRow.holds Try.pinned (OpenSpec.ofChange Rows.fnExactDeltaBackSpec) :=
  OpenClaim.holds_of_wide 5 Try.f5 rfl rfl rfl rfl rfl rfl rfl ⟨rfl, rfl, rfl, rfl, rfl⟩ rfl rfl rfl rfl rfl (by kernel_rfl) Try.func5 (by kernel_rfl)
    (of_decide_eq_true (by kernel_rfl)) (by unfold Func.isWrapper; first | (rw [if_pos (by decide +kernel)]; kernel_rfl) | (rw [if_neg (by decide +kernel)]; exact ⟨rfl, rfl⟩))
    (fun os started H enc _ => lifted os started H enc)

theorem proved : Rows.FnExactDeltaBackSaid := over
end Go.Proofs.Ytkpchlojapkimaa.fnExactDeltaBack

namespace Go.Proofs.Ytkpchlojapkimaa
theorem FnExactDeltaBack_holds : Rows.FnExactDeltaBackSaid := fnExactDeltaBack.proved
end Go.Proofs.Ytkpchlojapkimaa
