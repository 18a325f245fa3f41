/-
  At every rule the program and the specification gather the same variables, rising, each once; the answer owns its memory, and the rule reads as before; no condition.
-/
import Derived.Test.YtmpobkbjjnafmaaRows
import Derived.Test.YtmpobkbjjnafmaaXj
import Derived.WalkKit
import Derived.ProofKit
import Derived.OpenShut
import Derived.ShutString
import Derived.ChangeOld
import Derived.Below
import Derived.Deep.RegionWith
import Derived.Deep.RegionHeld3
namespace Go.Proofs.Ytmpobkbjjnafmaa.fnExactVarsOf
open Go.ChangeShapes Go.WideShapes Go.ChangeAt Go.RowKit
open Go.ChangeMaps (open_string shut_string)
set_option linter.unusedVariables false
set_option linter.unusedSimpArgs false

theorem own : ownKnob Try.prog.godebug = none := by kernel_rfl
theorem laidOut : laidOutB Try.prog = true := by kernel_rfl

set_option maxRecDepth 8000 in
set_option maxHeartbeats 16000000 in
theorem walk (x : Pm.Rm) (w : World) (r0 : x.Ok 0 w) :
    Calls Try.prog 4 #[.agg #[.int .i64 x.k, .string x.h.s, .slice x.h.A.a x.h.A.Q.length x.h.A.c, .slice x.B.a x.B.Q.length x.B.c]] w fun e w' => e = .returned (.bool true) ∧ Below w.heap.size w w' := by
  obtain ⟨W0, hW0⟩ : ∃ W0, W0 = w.alloc (.cells #[.int .i64 x.k, .string x.h.s, .slice x.h.A.a x.h.A.Q.length x.h.A.c, .slice x.B.a x.B.Q.length x.B.c] 35) := ⟨_, rfl⟩
  have B0 : Below w.heap.size w W0 := by subst hW0; exact Pl.below_alloc1 _ _
  have k0 : W0.heap[w.heap.size]? = some (.cells #[.int .i64 x.k, .string x.h.s, .slice x.h.A.a x.h.A.Q.length x.h.A.c, .slice x.B.a x.B.Q.length x.B.c] 35 (0, 0)) := by subst hW0; exact Pl.at_new rfl
  have HR0 : Hid (x.Ok 0 w) := r0
  have hz := Pm.szRm_any x W0 (Xj.rm_below r0 B0)
  by_cases hbig : 1048576 < x.wt
  · have hZ := hz.2 1048576 W0 (Below.refl _ _) hbig (Nat.le_refl _)
    go_enter Try.func4, Try.ntmps4
    go_wp2_with (go_at_call 10; rw [← hW0]; clear hW0; refine hZ.mono ?_; rintro e w1 ⟨rfl, hb⟩)
    go_ret
    exact ⟨rfl, Rw.next B0 hb⟩
  obtain ⟨L, hL⟩ : ∃ L : Nat, x.wt + L = 1048576 := ⟨1048576 - x.wt, by omega⟩
  have hZ := hz.1 1048576 L W0 (Below.refl _ _) hL (Nat.le_refl _)
  have hp : ¬ ((L : Int) < 0) := by omega
  have hle : x.wt ≤ 1048576 := by omega
  have HWT : Hid (∀ y : Pm.Rm, y.l = x.l → y.wt ≤ 1048576) := fun y e => by rw [Xj.rm_wt e]; exact hle
  have hTo : ∀ W, x.Ok 0 W → Calls Try.prog 12 #[.agg #[.int .i64 x.k, .string x.h.s, .slice x.h.A.a x.h.A.Q.length x.h.A.c, .slice x.B.a x.B.Q.length x.B.c]] W fun e w' => ∃ y : Pm.Rm, e = .returned (.agg #[.int .i64 y.k, .string y.h.s, .slice y.h.A.a y.h.A.Q.length y.h.A.c, .slice y.B.a y.B.Q.length y.B.c]) ∧ Below W.heap.size W w' ∧ y.Ok W.heap.size w' ∧ y.l = x.l := fun W h => Pm.toRm_any x W h hle W (Below.refl _ _)
  have hS : ∀ (y : Pm.Rm) W, y.Ok 0 W → y.l = x.l → Calls Try.prog 11 #[.agg #[.int .i64 y.k, .string y.h.s, .slice y.h.A.a y.h.A.Q.length y.h.A.c, .slice y.B.a y.B.Q.length y.B.c]] W fun e w' => ∃ v T, e = .returned v ∧ Below W.heap.size W w' ∧ Xb.OS w' W.heap.size v T ∧ Xb.tl T = Xc.varsR x.l ∧ T.length ≤ 1000 := fun y W h e => e ▸ Xc.varsS_any y W h
  have hI : ∀ (y : Pm.Rm) W, y.Ok 0 W → y.l = x.l → Calls Try.prog 13 #[.agg #[.int .i64 y.k, .string y.h.s, .slice y.h.A.a y.h.A.Q.length y.h.A.c, .slice y.B.a y.B.Q.length y.B.c]] W fun e w' => ∃ v T, e = .returned v ∧ Below W.heap.size W w' ∧ Xb.OS w' W.heap.size v T ∧ Xb.tl T = Xc.varsR x.l ∧ T.length ≤ 1000 := fun y W h e => e ▸ Xe.varsI_any y W h
  generalize Xc.varsR x.l = M at hS hI
  clear hbig hL hz hle r0
  have t1 : True := trivial
  go_enter Try.func4, Try.ntmps4
  go_wp2_with (first
    | (go_at_call 10; rw [← hW0]; clear hW0; refine hZ.mono ?_; rintro e w1 ⟨rfl, hb⟩; clear hZ; replace k0 := (hb.block _ (Pl.blk_lt k0)).trans k0; replace B0 := Rw.next B0 hb; clear hb; obtain ⟨p0, p1, p2, p3⟩ := Xc.four k0)
    | (go_at_call 12; clear t1; refine (hTo _ (Xj.rm_below HR0.out B0)).mono ?_; rintro e w1 ⟨y, rfl, hb, hm, sP⟩; replace hm := Xj.rm_zero hm; clear p0 p1 p2 p3; replace k0 := (hb.block _ (Pl.blk_lt k0)).trans k0; replace B0 := Rw.next B0 hb; clear hb; obtain ⟨p0, p1, p2, p3⟩ := Xc.four k0)
    | (go_at_call 11; refine (hS y _ hm sP).mono ?_; rintro e wS ⟨vS, TS, rfl, hb, oS, mS, lS⟩; clear p0 p1 p2 p3; clear hm sP; replace k0 := (hb.block _ (Pl.blk_lt k0)).trans k0; replace B0 := Rw.next B0 hb; clear hb; obtain ⟨p0, p1, p2, p3⟩ := Xc.four k0))
  have t2 : True := trivial
  have hlS : w.heap.size < wS.heap.size := Pl.blk_lt k0
  have HOL : Hid (∀ k, vS.ownBlock = some k → k < wS.heap.size) := fun k e => (oS.lt e).2
  have HMS : Hid (Xb.tl TS = M) := mS
  clear mS lS
  go_wp2_with (go_at_call 12; clear t2; refine (hTo _ (Xj.rm_below HR0.out B0)).mono ?_; rintro e wx ⟨y, rfl, hb, my, sY⟩; clear p0 p1 p2 p3; have hwS := hb.size; replace k0 := (hb.block _ (Pl.blk_lt k0)).trans k0; replace oS := oS.below hb; replace B0 := Rw.next B0 hb; clear hb)
  obtain ⟨Wx, hWx⟩ : ∃ Wx, Wx = wx.alloc (.cells #[.int .i64 y.k, .string y.h.s, .slice y.h.A.a y.h.A.Q.length y.h.A.c, .slice y.B.a y.B.Q.length y.B.c] 41) := ⟨_, rfl⟩
  have kx : Wx.heap[wx.heap.size]? = some (.cells #[.int .i64 y.k, .string y.h.s, .slice y.h.A.a y.h.A.Q.length y.h.A.c, .slice y.B.a y.B.Q.length y.B.c] 41 (0, 0)) := by subst hWx; exact Pl.at_new rfl
  have hb : Below wx.heap.size wx Wx := by subst hWx; exact Pl.below_alloc1 _ _
  have HMY : Hid (y.Ok wS.heap.size wx) := my
  have HY : Hid (y.l = x.l) := sY
  have BX : Below wx.heap.size wx Wx := hb
  have BI : Below Wx.heap.size Wx Wx := Below.refl _ _
  have hXx : wx.heap.size ≤ Wx.heap.size := hb.size
  replace k0 := (hb.block _ (Pl.blk_lt k0)).trans k0; replace oS := oS.below hb; replace B0 := Rw.next B0 hb
  clear hb my sY
  obtain ⟨p0, p1, p2, p3⟩ := Xc.four k0
  obtain ⟨y0, y1, y2, y3⟩ := Xc.four kx
  go_wp2_with (first
    | (go_at_call 13; rw [← hWx]; clear hWx; refine (hI y _ (Xj.rm_below (Xj.rm_zero HMY.out) BX) HY.out).mono ?_; rintro e wI ⟨vI, TI, rfl, hb, oI, mI, lI⟩; clear p0 p1 p2 p3; clear y0 y1 y2 y3; have hIx := hb.size; replace BX := Rw.next BX hb; replace BI := Rw.next BI hb; replace k0 := (hb.block _ (Pl.blk_lt k0)).trans k0; replace kx := (hb.block _ (Pl.blk_lt kx)).trans kx; replace oS := oS.below hb; replace B0 := Rw.next B0 hb; clear hb; obtain ⟨p0, p1, p2, p3⟩ := Xc.four k0; obtain ⟨y0, y1, y2, y3⟩ := Xc.four kx)
    | (go_at_call 14; refine (Xi.eqStr_same _ _ vI vS TI TS _ oI oS (mI.trans HMS.out.symm) lI).mono ?_; rintro e wE ⟨rfl, hb⟩; clear p0 p1 p2 p3; clear y0 y1 y2 y3; replace BX := Rw.next BX hb; replace BI := Rw.next BI hb; replace k0 := (hb.block _ (Pl.blk_lt k0)).trans k0; replace kx := (hb.block _ (Pl.blk_lt kx)).trans kx; replace oS := oS.below hb; replace oI := oI.below hb; replace B0 := Rw.next B0 hb; clear hb; obtain ⟨p0, p1, p2, p3⟩ := Xc.four k0; obtain ⟨y0, y1, y2, y3⟩ := Xc.four kx))
  go_region_held3 (fun w' => w'.cell? ⟨wx.heap.size, 0, none⟩ = some (.int .i64 y.k) ∧ w'.cell? ⟨wx.heap.size, 1, none⟩ = some (.string y.h.s) ∧ w'.cell? ⟨wx.heap.size, 2, none⟩ = some (.slice y.h.A.a y.h.A.Q.length y.h.A.c) ∧ w'.cell? ⟨wx.heap.size, 3, none⟩ = some (.slice y.B.a y.B.Q.length y.B.c) ∧ w'.cell? ⟨w.heap.size, 0, none⟩ = some (.int .i64 x.k) ∧ w'.cell? ⟨w.heap.size, 1, none⟩ = some (.string x.h.s) ∧ w'.cell? ⟨w.heap.size, 2, none⟩ = some (.slice x.h.A.a x.h.A.Q.length x.h.A.c) ∧ w'.cell? ⟨w.heap.size, 3, none⟩ = some (.slice x.B.a x.B.Q.length x.B.c)) (go_keep) (first
    | (go_at_call 12; clear p0 p1 p2 p3; clear y0 y1 y2 y3; refine (hTo _ (Xj.rm_below HR0.out (Rw.next B0 ((Below.refl _ _).drew)))).mono ?_; rintro e w4 ⟨z, rfl, hb, m2, s2⟩; replace m2 := Xj.rm_zero m2; replace hb := Rw.next ((Below.refl _ _).drew) hb; replace BX := Rw.next BX hb; replace BI := Rw.next BI hb; replace k0 := (hb.block _ (Pl.blk_lt k0)).trans k0; replace kx := (hb.block _ (Pl.blk_lt kx)).trans kx; replace oS := oS.below hb; replace oI := oI.below hb; replace B0 := Rw.next B0 hb; clear hb; obtain ⟨p0, p1, p2, p3⟩ := Xc.four k0; obtain ⟨y0, y1, y2, y3⟩ := Xc.four kx)
    | (go_at_call 15; clear p0 p1 p2 p3; clear y0 y1 y2 y3; refine (Pm.eqRm_same y z _ (Xj.rm_below (Xj.rm_zero HMY.out) BX) m2 (HY.out.trans s2.symm) _ (Below.refl _ _)).mono ?_; rintro e w5 ⟨rfl, hb⟩; clear m2 s2; replace BX := Rw.next BX hb; replace BI := Rw.next BI hb; replace k0 := (hb.block _ (Pl.blk_lt k0)).trans k0; replace kx := (hb.block _ (Pl.blk_lt kx)).trans kx; replace oS := oS.below hb; replace oI := oI.below hb; replace B0 := Rw.next B0 hb; clear hb; obtain ⟨p0, p1, p2, p3⟩ := Xc.four k0; obtain ⟨y0, y1, y2, y3⟩ := Xc.four kx))
  have hMk : ∀ W, Below wx.heap.size wx W → wx.heap.size ≤ W.heap.size → Calls Try.prog 16 #[.agg #[.int .i64 y.k, .string y.h.s, .slice y.h.A.a y.h.A.Q.length y.h.A.c, .slice y.B.a y.B.Q.length y.B.c], .int .i64 1] W fun e w' => ∃ K : Nat, e = .returned (.int .i64 K) ∧ Xg.Fr wS.heap.size wx.heap.size W w' := fun W hb hs => Xi.markRm_any wS.heap.size wx.heap.size wx W y HMY.out hb (by omega) (Nat.le_refl _) (HWT.out y HY.out) hs
  obtain ⟨Kc, hKc⟩ : ∃ Kc : Nat, Kc = 1 + TI.length := ⟨_, rfl⟩
  have hMs : ∀ W, Xb.OS W Wx.heap.size vI TI → Calls Try.prog 17 #[vI, .int .i64 1] W fun e w' => e = .returned (.int .i64 (Kc : Int)) ∧ Xb.OS w' Wx.heap.size vI (Xi.marks TI.length) ∧ W.heap.size ≤ w'.heap.size ∧ ∀ n W', n ≤ Wx.heap.size → n ≤ W.heap.size → Below n W' W → Below n W' w' := fun W h => by rw [hKc]; exact Xi.markStr_any _ _ _ _ h lI
  have hHs : ∀ W, Xb.OS W Wx.heap.size vI (Xi.marks TI.length) → Calls Try.prog 18 #[vI, .int .i64 1] W fun e w' => e = .returned (.int .i64 (Kc : Int)) ∧ Below W.heap.size W w' := fun W h => by rw [hKc]; exact Xi.heldStr_any _ _ _ _ h lI
  have hKn : ¬ ((Kc : Int) < 0) := by omega
  clear hKc
  have t1 : True := trivial
  have t2 : True := trivial
  have t3 : True := trivial
  have t4 : True := trivial
  go_wp2_with (first
    | (go_at_call 16; clear t1; clear p0 p1 p2 p3; clear y0 y1 y2 y3; refine (hMk _ BX BX.size).mono ?_; rintro e wM ⟨K, rfl, FM⟩; have hKm : ¬ ((K : Int) < 0) := (by omega); have HKm : Hid (K = K) := rfl; replace k0 := (FM.out _ (Pl.blk_lt k0) (by omega)).trans k0; replace B0 := Xj.below_fr B0 FM (by omega) B0.size; replace oI := Xj.os_fr oI FM (fun k e => .inr (Nat.le_trans hXx (oI.lt e).1)); replace oS := Xj.os_fr oS FM (fun k e => .inl (HOL.out k e)); have hsM := FM.size; have hzI := BI.size; clear FM kx BX BI; have t5 : True := trivial)
    | (go_at_call 14; clear t5; refine (Xi.eqStr_same _ _ vI vS TI TS _ oI oS (mI.trans HMS.out.symm) lI).mono ?_; rintro e wF ⟨rfl, hb⟩; replace k0 := (hb.block _ (Pl.blk_lt k0)).trans k0; replace oS := oS.below hb; replace oI := oI.below hb; replace B0 := Rw.next B0 hb; have hsF := hb.size; clear hb)
    | (go_at_call 17; refine (hMs _ oI).mono ?_; rintro e wN ⟨rfl, oM, hsN, hbN⟩; have hb := hbN Wx.heap.size _ (Nat.le_refl _) (by omega) (Below.refl _ _); replace k0 := (hb.block _ (by omega)).trans k0; replace oS := Xj.os_low oS hb (fun k e => by have := HOL.out k e; omega); replace B0 := hbN _ _ (by omega) (by omega) B0; clear hb hbN oI mI)
    | (go_at_call 18; clear t2; refine (hHs _ oM).mono ?_; rintro e wG ⟨rfl, hb⟩; replace k0 := (hb.block _ (Pl.blk_lt k0)).trans k0; replace oS := oS.below hb; replace oM := oM.below hb; replace B0 := Rw.next B0 hb; clear hb; obtain ⟨p0, p1, p2, p3⟩ := Xc.four k0; have t6 : True := trivial)
    | (go_at_call 12; clear t6; clear p0 p1 p2 p3; refine (hTo _ (Xj.rm_below HR0.out B0)).mono ?_; rintro e w7 ⟨z, rfl, hb, m2, s2⟩; replace m2 := Xj.rm_zero m2; replace k0 := (hb.block _ (Pl.blk_lt k0)).trans k0; replace oS := oS.below hb; replace oM := oM.below hb; replace B0 := Rw.next B0 hb; clear hb)
    | (go_at_call 13; refine (hI z _ m2 s2).mono ?_; rintro e w8 ⟨v8, T8, rfl, hb, o8, m8, l8⟩; clear m2 s2; replace k0 := (hb.block _ (Pl.blk_lt k0)).trans k0; replace oS := oS.below hb; replace oM := oM.below hb; replace B0 := Rw.next B0 hb; clear hb; have t7 : True := trivial)
    | (go_at_call 14; clear t7; refine (Xi.eqStr_same _ _ v8 vS T8 TS _ o8 oS (m8.trans HMS.out.symm) l8).mono ?_; rintro e w9 ⟨rfl, hb⟩; replace k0 := (hb.block _ (Pl.blk_lt k0)).trans k0; replace oS := oS.below hb; replace oM := oM.below hb; replace B0 := Rw.next B0 hb; clear hb o8 m8; have t8 : True := trivial)
    | (go_at_call 18; clear t8; refine (hHs _ oM).mono ?_; rintro e wZ ⟨rfl, hb⟩; replace B0 := Rw.next B0 hb))
  go_ret
  exact ⟨rfl, B0⟩

set_option maxRecDepth 100000 in
theorem lifted (os : Os) (started : os.Started) (H : Type) (enc : TypeId × Value → H) :
    ReturnsInHanded {} Try.checked os 4 .any (Rows.fnExactVarsOfSpec.pre6 enc Try.prog Try.f4 Rows.fnExactVarsOfRow.domain false) (Rows.fnExactVarsOfSpec.post enc Try.prog Try.f4 false true false false) := by
  refine returnsInHanded_of_change (C := Try.checked) own started (by kernel_rfl) Try.func4
    (ChangeSpec.witness6 (enc := enc) (C := Try.checked) false ⟨#[], #[.agg #[.int .i64 0, .string ⟨#[]⟩, .slice none 0 0, .slice none 0 0]], []⟩ 8 (by kernel_rfl) (by kernel_rfl) (by kernel_rfl) (by kernel_rfl)) ?_
  intro W base args ds gs before hval0 hW hcnd _
  have hval : ∀ (j : Nat) t v, Try.f4.params[j]? = some t → args[j]? = some v → Value.okWide Try.prog W .any base t v := hval0
  have hW' := hW
  obtain ⟨p, qq, hA0, hV, rfl, hfz, hnd⟩ := hW
  have hA : DataW.TrodAll enc Try.prog W 0 (fun _ => true) true Try.f4.params.toList args.toList ds p := hA0
  rw [Try.params4] at hA hval
  obtain ⟨v0, vs0, d0, ds0, p0, q0, hargs, rfl, rfl, h0, r0⟩ := trodAll_cons hA
  obtain ⟨rfl, rfl, rfl⟩ := trodAll_nil r0
  obtain rfl : args = #[v0] := by cases args; simp_all
  obtain ⟨rfl, rfl⟩ := trodVars_none hV
  have k0 := h0
  have lt0 : ∀ x ∈ p0, x.block < W.heap.size := by obtain ⟨m, hm⟩ := k0; exact DataW.trod_lt m _ _ _ hm
  obtain ⟨q, rfl, w0⟩ := Xj.open_rule (hval 0 35 v0 rfl rfl) h0
  clear hA0 hval0
  refine (walk q W w0).mono fun e W' ⟨he, bel⟩ => ?_
  subst he
  exact ⟨_, rfl, _, _, _, [], _, [], hW', trodAll_mk1 (shut_bool Try.underlying4 _), (trodAll_cons_mk (Below.trod laidOut (by kernel_rfl) (of_decide_eq_true (by kernel_rfl)) k0 bel lt0) trodAll_mk0), rfl, bel.frame _, fun h => by cases h⟩

theorem over : Rows.fnExactVarsOfRow.holds Try.pinned (OpenSpec.ofChange Rows.fnExactVarsOfSpec) :=
  OpenClaim.holds_of_wide 4 Try.f4 rfl rfl rfl rfl rfl rfl rfl ⟨rfl, rfl, rfl, rfl, rfl⟩ rfl rfl rfl rfl rfl (by kernel_rfl) Try.func4 (by kernel_rfl)
    (of_decide_eq_true (by kernel_rfl)) (by unfold Func.isWrapper; first | (rw [if_pos (by decide +kernel)]; kernel_rfl) | (rw [if_neg (by decide +kernel)]; exact ⟨rfl, rfl⟩))
    (fun os started H enc _ => lifted os started H enc)

theorem proved : Rows.FnExactVarsOfSaid := over
end Go.Proofs.Ytmpobkbjjnafmaa.fnExactVarsOf

namespace Go.Proofs.Ytmpobkbjjnafmaa
theorem FnExactVarsOf_holds : Rows.FnExactVarsOfSaid := fnExactVarsOf.proved
end Go.Proofs.Ytmpobkbjjnafmaa
