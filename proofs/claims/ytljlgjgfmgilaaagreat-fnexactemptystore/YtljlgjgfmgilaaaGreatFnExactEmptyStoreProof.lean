/- At every program and kind the program and the specification make the same store of empty relations; the answer owns its memory, and the program reads as before; no condition. -/
import Derived.Test.YtljlgjgfmgilaaaGreatRows
import Derived.Test.YtljlgjgfmgilaaaGreatPrc
import Derived.Test.YtljlgjgfmgilaaaGreatPre
import Derived.Test.YtljlgjgfmgilaaaGreatPxf
import Derived.WalkKit
import Derived.ProofKit
import Derived.OpenShut
import Derived.ShutString
import Derived.ChangeOld
import Derived.Below
import Derived.Deep.RegionWith
import Derived.Deep.RegionHeld3
namespace Go.Proofs.YtljlgjgfmgilaaaGreat.fnExactEmptyStore
open Go.ChangeShapes Go.WideShapes Go.ChangeAt Go.RowKit
open Go.ChangeMaps (open_string shut_string)
set_option linter.unusedVariables false
set_option linter.unusedSimpArgs false

theorem own : ownKnob Tryz.prog.godebug = none := by kernel_rfl
theorem laidOut : laidOutB Tryz.prog = true := by kernel_rfl

set_option maxRecDepth 8000 in
set_option maxHeartbeats 16000000 in
theorem walk (x0 : Pm.Pg) (i1 : Int) (w : World) (w0 : x0.Ok 0 w) :
    Calls Tryz.prog 4 #[.agg #[.slice x0.D.a x0.D.Q.length x0.D.c, .slice x0.R.a x0.R.Q.length x0.R.c], .int .i64 i1] w fun e w' => e = .returned (.bool true) ∧ Below w.heap.size w w' := by
  have r0 := w0
  clear w0
  obtain ⟨W0, hW0⟩ : ∃ W0, W0 = w.alloc (.cells #[.slice x0.D.a x0.D.Q.length x0.D.c, .slice x0.R.a x0.R.Q.length x0.R.c] 25) := ⟨_, rfl⟩
  have B0 : Below w.heap.size w W0 := by subst hW0; exact Pl.below_alloc1 _ _
  have k0 : W0.heap[w.heap.size]? = some (.cells #[.slice x0.D.a x0.D.Q.length x0.D.c, .slice x0.R.a x0.R.Q.length x0.R.c] 25 (0, 0)) := by subst hW0; exact Pl.at_new rfl
  replace r0 := r0.below B0
  have hz := Pm.szPg_any x0 W0 r0
  by_cases hbig : 1048576 < x0.wt
  · have hZ := hz.2 1048576 W0 (Below.refl _ _) hbig (Nat.le_refl _)
    go_enter Tryz.func4, Tryz.ntmps4
    go_wp2_with (go_at_call 5; rw [← hW0]; clear hW0; refine hZ.mono ?_; rintro e w1 ⟨rfl, hb⟩)
    go_ret
    exact ⟨rfl, Rw.next B0 hb⟩
  obtain ⟨L, hL⟩ : ∃ L : Nat, x0.wt + L = 1048576 := ⟨1048576 - x0.wt, by omega⟩
  have hZ := hz.1 1048576 L W0 (Below.refl _ _) hL (Nat.le_refl _)
  have hp : ¬ ((L : Int) < 0) := by omega
  have hle : x0.wt ≤ 1048576 := by omega
  have HWT : Hid (∀ y : Pm.Pg, y.l = x0.l → y.wt ≤ 1048576) := fun y e => by rw [Nq.pg_wt e]; exact hle
  have hTo : ∀ W, x0.Ok 0 W → Calls Tryz.prog 7 #[.agg #[.slice x0.D.a x0.D.Q.length x0.D.c, .slice x0.R.a x0.R.Q.length x0.R.c]] W fun e w' => ∃ y : Pm.Pg, e = .returned (.agg #[.slice y.D.a y.D.Q.length y.D.c, .slice y.R.a y.R.Q.length y.R.c]) ∧ Below W.heap.size W w' ∧ y.Ok W.heap.size w' ∧ y.l = x0.l := fun W h => Pm.toPg_any x0 W h hle W (Below.refl _ _)
  obtain ⟨M, hM⟩ : ∃ M, M = Nq.esOf x0.l i1 := ⟨_, rfl⟩
  have hfew := Nq.es_few x0.l i1
  rw [← hM] at hfew
  have HSl : Hid (∀ F : List St.Nm, St.told F = M → F.length ≤ 4194304) := fun F h => by rw [← St.told_len, h]; omega
  have HKM : Hid (∀ F : List St.Nm, St.told F = M → St.kN F 1 F.length ≤ 10000000) := fun F h => Mp.few_marks h (by omega) hfew.2
  have hS : ∀ (y : Pm.Pg) W, y.Ok 0 W → y.l = x0.l → Calls Tryz.prog 10 #[.agg #[.slice y.D.a y.D.Q.length y.D.c, .slice y.R.a y.R.Q.length y.R.c], .int .i64 i1] W (Nq.ResE W M) := fun y W h e => by rw [hM, ← e]; exact Nq.esS_any y i1 W h
  have hI : ∀ (y : Pm.Pg) W, y.Ok 0 W → y.l = x0.l → Calls Tryz.prog 11 #[.agg #[.slice y.D.a y.D.Q.length y.D.c, .slice y.R.a y.R.Q.length y.R.c], .int .i64 i1] W (Nq.ResE W M) := fun y W h e => by rw [hM, ← e]; exact Nq.esI_any y i1 W h
  clear hbig hL hz hle hM hfew
  have t1 : True := trivial
  go_enter Tryz.func4, Tryz.ntmps4
  go_wp2_with (first
    | (go_at_call 5; rw [← hW0]; clear hW0; refine hZ.mono ?_; rintro e w1 ⟨rfl, hb⟩; clear hZ; replace k0 := (hb.block _ (Pl.blk_lt k0)).trans k0; replace r0 := r0.below hb; replace B0 := Rw.next B0 hb; clear hb; obtain ⟨p0, p1⟩ := Pl.two k0)
    | (go_at_call 7; clear t1; refine (hTo _ r0).mono ?_; rintro e w1 ⟨y, rfl, hb, hm, sP⟩; replace hm := hm.mono (Nat.zero_le _); clear p0 p1; replace k0 := (hb.block _ (Pl.blk_lt k0)).trans k0; replace r0 := r0.below hb; replace B0 := Rw.next B0 hb; clear hb; obtain ⟨p0, p1⟩ := Pl.two k0)
    | (go_at_call 10; refine (hS y _ hm sP).mono ?_; rintro e wS ⟨vS, FS, rfl, oS, fS, hb⟩; clear p0 p1 hm sP; replace k0 := (hb.block _ (Pl.blk_lt k0)).trans k0; replace r0 := r0.below hb; replace B0 := Rw.next B0 hb; clear hb; obtain ⟨p0, p1⟩ := Pl.two k0; obtain ⟨aS, gS, cS, rfl, mS⟩ := oS.form (HSl.out FS fS); have HFS : Hid (St.told FS = M) := fS; clear oS fS; obtain ⟨WB, hWB⟩ : ∃ WB, WB = wS.alloc (.cells #[.slice aS FS.length cS] 38) := ⟨_, rfl⟩; have kS : WB.heap[wS.heap.size]? = some (.cells #[.slice aS FS.length cS] 38 (0, 0)) := (by subst hWB; exact Pl.at_new rfl); have BB : Below wS.heap.size wS WB := (by subst hWB; exact Pl.below_alloc1 _ _); have lk := Pl.blk_lt k0; have t2 : True := trivial))
  go_wp2_with (go_at_call 7; clear t2; rw [← hWB]; clear hWB p0 p1; replace k0 := (BB.block _ (Pl.blk_lt k0)).trans k0; replace r0 := r0.below BB; replace mS := mS.below BB; replace B0 := Rw.next B0 BB; clear BB lk; have HK0 : Hid (WB.heap[w.heap.size]? = some (.cells #[.slice x0.D.a x0.D.Q.length x0.D.c, .slice x0.R.a x0.R.Q.length x0.R.c] 25 (0, 0))) := k0; have HKS : Hid (WB.heap[wS.heap.size]? = some (.cells #[.slice aS FS.length cS] 38 (0, 0))) := kS; have HR0 : Hid (x0.Ok 0 WB) := r0; have HMS : Hid (St.Rd WB aS gS 0 FS) := mS.rd; have HB0 : Hid (Below w.heap.size w WB) := B0; clear k0 kS r0 mS B0; refine (hTo _ HR0.out).mono ?_; rintro e wx ⟨y, rfl, hb, my, sY⟩; have BW : Below WB.heap.size WB wx := hb; clear hb)
  obtain ⟨Wx, hWx⟩ : ∃ Wx, Wx = wx.alloc (.cells #[.slice y.D.a y.D.Q.length y.D.c, .slice y.R.a y.R.Q.length y.R.c] 32) := ⟨_, rfl⟩
  have kx : Wx.heap[wx.heap.size]? = some (.cells #[.slice y.D.a y.D.Q.length y.D.c, .slice y.R.a y.R.Q.length y.R.c] 32 (0, 0)) := by subst hWx; exact Pl.at_new rfl
  have BX : Below wx.heap.size wx Wx := by subst hWx; exact Pl.below_alloc1 _ _
  have HMY : Hid (y.Ok WB.heap.size wx) := my
  have HY : Hid (y.l = x0.l) := sY
  have HSZ : Hid (WB.heap.size ≤ wx.heap.size ∧ wx.heap.size < Wx.heap.size ∧ w.heap.size < WB.heap.size ∧ wS.heap.size < WB.heap.size) := ⟨BW.size, Pl.blk_lt kx, Pl.blk_lt HK0.out, Pl.blk_lt HKS.out⟩
  replace BW := Rw.next BW BX
  clear my sY
  obtain ⟨y0, y1⟩ := Pl.two kx
  have t3 : True := trivial
  go_wp2_with (first
    | (go_at_call 11; clear t3; rw [← hWx]; clear hWx; refine (hI y _ ((HMY.out.below BX).mono (Nat.zero_le _)) HY.out).mono ?_; rintro e wI ⟨vI, FI, rfl, oI, fI, hb⟩; obtain ⟨aI, gI, cI, rfl, mI⟩ := oI.form (HSl.out FI fI); have HFI : Hid (St.told FI = M) := fI; have hsI := hb.size; clear oI fI y0 y1; replace kx := (hb.block _ (Pl.blk_lt kx)).trans kx; replace BW := Rw.next BW hb; replace BX := Rw.next BX hb; clear hb; have hgi : FI.length ≠ 0 → gI < wI.heap.size := (fun h => Pl.blk_lt (mI.blk.resolve_left h).2.choose_spec); have HUI : Hid (∀ z, St.UseN FI gI z → Wx.heap.size ≤ z ∧ z < wI.heap.size) := (fun z hu => St.own_use' mI hgi hu); have HSI : Hid (Wx.heap.size ≤ wI.heap.size) := hsI; obtain ⟨WC, hWC⟩ : ∃ WC, WC = wI.alloc (.cells #[.slice aI FI.length cI] 38) := ⟨_, rfl⟩; have kI : WC.heap[wI.heap.size]? = some (.cells #[.slice aI FI.length cI] 38 (0, 0)) := (by subst hWC; exact Pl.at_new rfl); have BC : Below wI.heap.size wI WC := (by subst hWC; exact Pl.below_alloc1 _ _); have s0 := Pl.one ((BW.block _ (Pl.blk_lt HKS.out)).trans HKS.out); have ls := Pl.blk_lt ((BW.block _ (Pl.blk_lt HKS.out)).trans HKS.out); clear hgi hsI; have t4 : True := trivial)
    | (go_at_call 12; clear t4; rw [← hWC]; clear hWC s0 ls; have hb := BC; replace kx := (hb.block _ (Pl.blk_lt kx)).trans kx; replace mI := mI.below hb; replace BW := Rw.next BW hb; replace BX := Rw.next BX hb; clear hb BC; refine (St.eqSt_same _ _ _ _ _ _ _ _ FI FS _ mI.rd (HMS.out.below BW) (HFI.out.trans HFS.out.symm)).mono ?_; rintro e wE ⟨rfl, hb⟩; replace kx := (hb.block _ (Pl.blk_lt kx)).trans kx; replace kI := (hb.block _ (Pl.blk_lt kI)).trans kI; replace mI := mI.below hb; replace BW := Rw.next BW hb; replace BX := Rw.next BX hb; clear hb; obtain ⟨y0, y1⟩ := Pl.two kx; obtain ⟨p0, p1⟩ := Pl.two ((BW.block _ (Pl.blk_lt HK0.out)).trans HK0.out)))
  go_region_held3 (fun w' => w'.cell? ⟨wx.heap.size, 0, none⟩ = some (.slice y.D.a y.D.Q.length y.D.c) ∧ w'.cell? ⟨wx.heap.size, 1, none⟩ = some (.slice y.R.a y.R.Q.length y.R.c) ∧ w'.cell? ⟨w.heap.size, 0, none⟩ = some (.slice x0.D.a x0.D.Q.length x0.D.c) ∧ w'.cell? ⟨w.heap.size, 1, none⟩ = some (.slice x0.R.a x0.R.Q.length x0.R.c)) (go_keep) (first
    | (go_at_call 7; clear y0 y1 p0 p1; refine (hTo _ (HR0.out.below (Rw.next BW ((Below.refl _ _).drew)))).mono ?_; rintro e w4 ⟨z, rfl, hb, m2, s2⟩; replace m2 := m2.mono (Nat.zero_le _); replace hb := Rw.next ((Below.refl _ _).drew) hb; replace kx := (hb.block _ (Pl.blk_lt kx)).trans kx; replace kI := (hb.block _ (Pl.blk_lt kI)).trans kI; replace mI := mI.below hb; replace BW := Rw.next BW hb; replace BX := Rw.next BX hb; clear hb; obtain ⟨y0, y1⟩ := Pl.two kx; obtain ⟨p0, p1⟩ := Pl.two ((BW.block _ (Pl.blk_lt HK0.out)).trans HK0.out))
    | (go_at_call 9; clear y0 y1 p0 p1; refine (Pm.eqPg_same y z _ ((HMY.out.below BX).mono (Nat.zero_le _)) m2 (HY.out.trans s2.symm) _ (Below.refl _ _)).mono ?_; rintro e w5 ⟨rfl, hb⟩; clear m2 s2; replace kx := (hb.block _ (Pl.blk_lt kx)).trans kx; replace kI := (hb.block _ (Pl.blk_lt kI)).trans kI; replace mI := mI.below hb; replace BW := Rw.next BW hb; replace BX := Rw.next BX hb; clear hb; obtain ⟨y0, y1⟩ := Pl.two kx; obtain ⟨p0, p1⟩ := Pl.two ((BW.block _ (Pl.blk_lt HK0.out)).trans HK0.out)))
  have hMk : ∀ W, Below wx.heap.size wx W → wx.heap.size ≤ W.heap.size → Calls Tryz.prog 13 #[.agg #[.slice y.D.a y.D.Q.length y.D.c, .slice y.R.a y.R.Q.length y.R.c], .int .i64 1] W fun e w' => ∃ K : Nat, e = .returned (.int .i64 K) ∧ Xg.Fr WB.heap.size wx.heap.size W w' := fun W hb hs => Xk.markPg_any WB.heap.size wx.heap.size wx W y HMY.out hb (by have := HSZ.out; omega) (Nat.le_refl _) (HWT.out y HY.out) hs
  obtain ⟨Kc, hKc⟩ : ∃ Kc : Nat, Kc = St.kN FI 1 FI.length := ⟨_, rfl⟩
  have HKc : Hid (Kc = St.kN FI 1 FI.length) := hKc
  have HcF : Hid (St.kN FI 1 FI.length ≤ 10000000) := HKM.out FI HFI.out
  have hKn : ¬ ((Kc : Int) < 0) := by omega
  clear hKc p0 p1
  have t1 : True := trivial
  go_wp2_with (first
    | (go_at_call 13; clear t1 y0 y1; refine (hMk _ BX BX.size).mono ?_; rintro e wM ⟨K, rfl, FM⟩; have hKm : ¬ ((K : Int) < 0) := (by omega); have hq := HSZ.out; have hq2 := HSI.out; replace kI := (FM.out _ (Pl.blk_lt kI) (by omega)).trans kI; replace mI := mI.keep (fun z hz hz2 => FM.out z hz2 (by omega)); have HZM : Hid (wx.heap.size ≤ wM.heap.size) := Nat.le_trans BX.size FM.size; replace BW := Nq.below_fr BW FM (Nat.le_refl _) BW.size; clear hq hq2 FM kx BX hMk; have i0 := Pl.one kI; have s0 := Pl.one ((BW.block _ (Pl.blk_lt HKS.out)).trans HKS.out); have t5 : True := trivial)
    | (go_at_call 12; clear t5 i0 s0; refine (St.eqSt_same _ _ _ _ _ _ _ _ FI FS _ mI.rd (HMS.out.below BW) (HFI.out.trans HFS.out.symm)).mono ?_; rintro e wF ⟨rfl, hb⟩; replace kI := (hb.block _ (Pl.blk_lt kI)).trans kI; replace mI := mI.below hb; replace BW := Rw.next BW hb; clear hb; have i0 := Pl.one kI; have t6 : True := trivial)
    | (go_at_call 14; clear t6 i0; refine (St.markSt_any 1 (by omega) _ gI _ Wx.heap.size wI.heap.size FI _ mI (Nat.le_trans HcF.out (by omega))).mono ?_; rw [← HKc.out]; rintro e wN ⟨rfl, kp, mk⟩; have hq := HSZ.out; have hq2 := HSI.out; replace kI := (kp.block _ (Pl.blk_lt kI) (fun hu => by have := HUI.out _ hu; omega)).trans kI; replace BW := kp.below BW BW.size (fun z hu => by have := HUI.out _ hu; omega); clear kp mI hq hq2; have i0 := Pl.one kI; have t7 : True := trivial)
    | (go_at_call 15; clear t7 i0; refine (St.heldSt_any 1 (by omega) _ gI _ FI _ mk (Nat.le_trans HcF.out (by omega))).mono ?_; rw [← HKc.out]; rintro e wG ⟨rfl, hb⟩; replace kI := (hb.block _ (Pl.blk_lt kI)).trans kI; replace mk := mk.below hb; replace BW := Rw.next BW hb; clear hb; obtain ⟨p0, p1⟩ := Pl.two ((BW.block _ (Pl.blk_lt HK0.out)).trans HK0.out); have t8 : True := trivial)
    | (go_at_call 7; clear t8 p0 p1; refine (hTo _ (HR0.out.below BW)).mono ?_; rintro e w7 ⟨z, rfl, hb, m2, s2⟩; replace m2 := m2.mono (Nat.zero_le _); replace kI := (hb.block _ (Pl.blk_lt kI)).trans kI; replace mk := mk.below hb; replace BW := Rw.next BW hb; clear hb)
    | (go_at_call 11; refine (hI z _ m2 s2).mono ?_; rintro e w8 ⟨v8, F8, rfl, o8, f8, hb⟩; clear m2 s2; replace kI := (hb.block _ (Pl.blk_lt kI)).trans kI; replace mk := mk.below hb; replace BW := Rw.next BW hb; clear hb; obtain ⟨a8, g8, c8, rfl, m8⟩ := o8.form (HSl.out F8 f8); have HF8 : Hid (St.told F8 = M) := f8; clear o8 f8; obtain ⟨W8, hW8⟩ : ∃ W8, W8 = w8.alloc (.cells #[.slice a8 F8.length c8] 38) := ⟨_, rfl⟩; have B8 : Below w8.heap.size w8 W8 := (by subst hW8; exact Pl.below_alloc1 _ _); have s0 := Pl.one ((BW.block _ (Pl.blk_lt HKS.out)).trans HKS.out); have ls := Pl.blk_lt ((BW.block _ (Pl.blk_lt HKS.out)).trans HKS.out); have t9 : True := trivial)
    | (go_at_call 12; clear t9; rw [← hW8]; clear hW8 s0 ls; have hb := B8; replace m8 := m8.below hb; replace kI := (hb.block _ (Pl.blk_lt kI)).trans kI; replace mk := mk.below hb; replace BW := Rw.next BW hb; clear hb; clear B8; refine (St.eqSt_same _ _ _ _ _ _ _ _ F8 FS _ m8.rd (HMS.out.below BW) (HF8.out.trans HFS.out.symm)).mono ?_; rintro e w9 ⟨rfl, hb⟩; clear m8; replace kI := (hb.block _ (Pl.blk_lt kI)).trans kI; replace mk := mk.below hb; replace BW := Rw.next BW hb; clear hb; have i0 := Pl.one kI; have t10 : True := trivial)
    | (go_at_call 15; clear t10 i0; refine (St.heldSt_any 1 (by omega) _ gI _ FI _ mk (Nat.le_trans HcF.out (by omega))).mono ?_; rw [← HKc.out]; rintro e wZ ⟨rfl, hb⟩; replace BW := Rw.next BW hb))
  go_ret
  exact ⟨rfl, Rw.next HB0.out BW⟩

set_option maxRecDepth 100000 in
theorem lifted (os : Os) (started : os.Started) (H : Type) (enc : TypeId × Value → H) :
    ReturnsInHanded {} Tryz.checked os 4 .any (Rows.fnExactEmptyStoreSpec.pre6 enc Tryz.prog Tryz.f4 Rows.fnExactEmptyStoreRow.domain false) (Rows.fnExactEmptyStoreSpec.post enc Tryz.prog Tryz.f4 false true false false) := by
  refine returnsInHanded_of_change (C := Tryz.checked) own started (by kernel_rfl) Tryz.func4
    (ChangeSpec.witness6 (enc := enc) (C := Tryz.checked) false ⟨#[], #[.agg #[.slice none 0 0, .slice none 0 0], .int .i64 0], []⟩ 8 (by kernel_rfl) (by kernel_rfl) (by kernel_rfl) (by kernel_rfl)) ?_
  intro W base args ds gs before hval0 hW hcnd _
  have hval : ∀ (j : Nat) t v, Tryz.f4.params[j]? = some t → args[j]? = some v → Value.okWide Tryz.prog W .any base t v := hval0
  have hW' := hW
  obtain ⟨p, qq, hA0, hV, rfl, hfz, hnd⟩ := hW
  have hA : DataW.TrodAll enc Tryz.prog W 0 (fun _ => true) true Tryz.f4.params.toList args.toList ds p := hA0
  rw [Tryz.params4] at hA hval
  obtain ⟨v0, vs0, d0, ds0, p0, q0, hargs, rfl, rfl, h0, r0⟩ := trodAll_cons hA
  obtain ⟨v1, vs1, d1, ds1, p1, q1, rfl, rfl, rfl, h1, r1⟩ := trodAll_cons r0
  obtain ⟨rfl, rfl, rfl⟩ := trodAll_nil r1
  obtain rfl : args = #[v0, v1] := by cases args; simp_all
  obtain ⟨rfl, rfl⟩ := trodVars_none hV
  have k0 := h0
  have lt0 : ∀ x ∈ p0, x.block < W.heap.size := by obtain ⟨m, hm⟩ := k0; exact DataW.trod_lt m _ _ _ hm
  obtain ⟨x0, rfl, w0⟩ := Pm.open_program (hval 0 25 v0 rfl rfl) h0
  obtain ⟨i1, rfl, rfl, rfl, w1⟩ := open_int Tryz.underlying3 (hval 1 3 v1 rfl rfl) h1
  clear hA0 hval0
  refine (walk x0 i1 W w0).mono fun e W' ⟨he, bel⟩ => ?_
  subst he
  exact ⟨_, rfl, _, _, _, [], _, [], hW', trodAll_mk1 (shut_bool Tryz.underlying4 _), (trodAll_cons_mk (Below.trod laidOut (by kernel_rfl) (of_decide_eq_true (by kernel_rfl)) k0 bel lt0) (trodAll_cons_mk (shut_int Tryz.underlying3 w1) trodAll_mk0)), rfl, bel.frame _, fun h => by cases h⟩

theorem over : Rows.fnExactEmptyStoreRow.holds Tryz.pinned (OpenSpec.ofChange Rows.fnExactEmptyStoreSpec) :=
  OpenClaim.holds_of_wide 4 Tryz.f4 rfl rfl rfl rfl rfl rfl rfl ⟨rfl, rfl, rfl, rfl, rfl⟩ rfl rfl rfl rfl rfl (by kernel_rfl) Tryz.func4 (by kernel_rfl)
    (of_decide_eq_true (by kernel_rfl)) (by unfold Func.isWrapper; first | (rw [if_pos (by decide +kernel)]; kernel_rfl) | (rw [if_neg (by decide +kernel)]; exact ⟨rfl, rfl⟩))
    (fun os started H enc _ => lifted os started H enc)

theorem proved : Rows.FnExactEmptyStoreSaid := over
end Go.Proofs.YtljlgjgfmgilaaaGreat.fnExactEmptyStore

namespace Go.Proofs.YtljlgjgfmgilaaaGreat
theorem FnExactEmptyStore_holds : Rows.FnExactEmptyStoreSaid := fnExactEmptyStore.proved
end Go.Proofs.YtljlgjgfmgilaaaGreat
