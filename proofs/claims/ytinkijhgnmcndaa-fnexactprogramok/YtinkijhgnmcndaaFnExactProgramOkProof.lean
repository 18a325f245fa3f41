/- At every program the program and the specification answer the same whether it is right, and the argument reads as before; no condition. -/
import Derived.Test.YtinkijhgnmcndaaRows
import Derived.Test.YtinkijhgnmcndaaPrc
import Derived.Test.YtinkijhgnmcndaaPre
import Derived.Test.YtinkijhgnmcndaaPrg
import Derived.Test.YtinkijhgnmcndaaPrh
import Derived.WalkKit
import Derived.ProofKit
import Derived.OpenShut
import Derived.ShutString
import Derived.ChangeOld
import Derived.Below
import Derived.Deep.RegionWith
import Derived.Deep.RegionHeld3
namespace Go.Proofs.Ytinkijhgnmcndaa.fnExactProgramOk
open Go.ChangeShapes Go.WideShapes Go.ChangeAt Go.RowKit
open Go.ChangeMaps (open_string shut_string)
set_option linter.unusedVariables false
set_option linter.unusedSimpArgs false

theorem own : ownKnob Try.prog.godebug = none := by kernel_rfl
theorem laidOut : laidOutB Try.prog = true := by kernel_rfl

set_option maxRecDepth 8000 in
set_option maxHeartbeats 16000000 in
theorem walk (x : Pm.Pg) (w : World) (r0 : x.Ok 0 w) :
    Calls Try.prog 3 #[.agg #[.slice x.D.a x.D.Q.length x.D.c, .slice x.R.a x.R.Q.length x.R.c]] w fun e w' => e = .returned (.bool true) ∧ Below w.heap.size w w' := by
  obtain ⟨W0, hW0⟩ : ∃ W0, W0 = w.alloc (.cells #[.slice x.D.a x.D.Q.length x.D.c, .slice x.R.a x.R.Q.length x.R.c] 25) := ⟨_, rfl⟩
  have B0 : Below w.heap.size w W0 := by subst hW0; exact Pl.below_alloc1 _ _
  have k0 : W0.heap[w.heap.size]? = some (.cells #[.slice x.D.a x.D.Q.length x.D.c, .slice x.R.a x.R.Q.length x.R.c] 25 (0, 0)) := by subst hW0; exact Pl.at_new rfl
  replace r0 := r0.below B0
  have hz := Pm.szPg_any x W0 r0
  by_cases hbig : 1048576 < x.wt
  · have hZ := hz.2 1048576 W0 (Below.refl _ _) hbig (Nat.le_refl _)
    go_enter Try.func3, Try.ntmps3
    go_wp2_with (go_at_call 4; rw [← hW0]; clear hW0; refine hZ.mono ?_; rintro e w1 ⟨rfl, hb⟩)
    go_ret
    exact ⟨rfl, Rw.next B0 hb⟩
  obtain ⟨L, hL⟩ : ∃ L : Nat, x.wt + L = 1048576 := ⟨1048576 - x.wt, by omega⟩
  have hZ := hz.1 1048576 L W0 (Below.refl _ _) hL (Nat.le_refl _)
  have hp : ¬ ((L : Int) < 0) := by omega
  have hle : x.wt ≤ 1048576 := by omega
  have hTo := fun W (h : x.Ok 0 W) => Pm.toPg_any x W h hle W (Below.refl _ _)
  have hS := fun (y : Pm.Pg) W (h : y.Ok 0 W) (e : y.l = x.l) => e ▸ Pm.progS_any y W h
  have hI := fun (y : Pm.Pg) W (h : y.Ok 0 W) (e : y.l = x.l) => e ▸ Pm.progI_any y W h
  generalize Pm.progB x.l = R at hS hI
  clear hbig hL hz hle
  have t1 : True := trivial
  go_enter Try.func3, Try.ntmps3
  go_wp2_with (first
    | (go_at_call 4; rw [← hW0]; clear hW0; refine hZ.mono ?_; rintro e w1 ⟨rfl, hb⟩; clear hZ; replace k0 := (hb.block _ (Pl.blk_lt k0)).trans k0; replace r0 := r0.below hb; replace B0 := Rw.next B0 hb; clear hb; obtain ⟨p0, p1⟩ := Pl.two k0)
    | (go_at_call 6; clear t1; refine (hTo _ r0).mono ?_; rintro e w1 ⟨y, rfl, hb, hm, sP⟩; replace hm := hm.mono (Nat.zero_le _); clear p0 p1; replace k0 := (hb.block _ (Pl.blk_lt k0)).trans k0; replace r0 := r0.below hb; replace B0 := Rw.next B0 hb; clear hb; obtain ⟨p0, p1⟩ := Pl.two k0)
    | (go_at_call 5; refine (hS y _ hm sP).mono ?_; rintro e w1 ⟨rfl, hb⟩; clear p0 p1 hm sP; replace k0 := (hb.block _ (Pl.blk_lt k0)).trans k0; replace r0 := r0.below hb; replace B0 := Rw.next B0 hb; clear hb; obtain ⟨p0, p1⟩ := Pl.two k0))
  have t2 : True := trivial
  go_wp2_with (go_at_call 6; clear t2; refine (hTo _ r0).mono ?_; rintro e wx ⟨y, rfl, hb, my, sY⟩; replace my := my.mono (Nat.zero_le _); clear p0 p1; replace k0 := (hb.block _ (Pl.blk_lt k0)).trans k0; replace r0 := r0.below hb; replace B0 := Rw.next B0 hb; clear hb; obtain ⟨p0, p1⟩ := Pl.two k0; clear p0 p1)
  obtain ⟨Wx, hWx⟩ : ∃ Wx, Wx = wx.alloc (.cells #[.slice y.D.a y.D.Q.length y.D.c, .slice y.R.a y.R.Q.length y.R.c] 31) := ⟨_, rfl⟩
  have kx : Wx.heap[wx.heap.size]? = some (.cells #[.slice y.D.a y.D.Q.length y.D.c, .slice y.R.a y.R.Q.length y.R.c] 31 (0, 0)) := by subst hWx; exact Pl.at_new rfl
  have hb : Below wx.heap.size wx Wx := by subst hWx; exact Pl.below_alloc1 _ _
  replace k0 := (hb.block _ (Pl.blk_lt k0)).trans k0; replace r0 := r0.below hb; replace my := my.below hb; replace B0 := Rw.next B0 hb; clear hb
  obtain ⟨p0, p1⟩ := Pl.two k0
  obtain ⟨y0, y1⟩ := Pl.two kx
  have HY : Hid (y.l = x.l) := sY
  clear sY
  go_wp2_with (go_at_call 7; rw [← hWx]; clear hWx; refine (hI y _ my HY.out).mono ?_; rintro e w3 ⟨rfl, hb⟩; clear p0 p1 y0 y1; replace k0 := (hb.block _ (Pl.blk_lt k0)).trans k0; replace kx := (hb.block _ (Pl.blk_lt kx)).trans kx; replace r0 := r0.below hb; replace my := my.below hb; replace B0 := Rw.next B0 hb; clear hb; obtain ⟨p0, p1⟩ := Pl.two k0; obtain ⟨y0, y1⟩ := Pl.two kx)
  go_region_held3 (fun w' => w'.cell? ⟨wx.heap.size, 0, none⟩ = some (.slice y.D.a y.D.Q.length y.D.c) ∧ w'.cell? ⟨wx.heap.size, 1, none⟩ = some (.slice y.R.a y.R.Q.length y.R.c) ∧ w'.cell? ⟨w.heap.size, 0, none⟩ = some (.slice x.D.a x.D.Q.length x.D.c) ∧ w'.cell? ⟨w.heap.size, 1, none⟩ = some (.slice x.R.a x.R.Q.length x.R.c)) (go_keep) (first
    | (go_at_call 6; refine (hTo _ (r0.below ((Below.refl _ _).drew))).mono ?_; rintro e w4 ⟨z, rfl, hb, m2, s2⟩; replace m2 := m2.mono (Nat.zero_le _); replace hb := Rw.next ((Below.refl _ _).drew) hb; clear p0 p1 y0 y1; replace k0 := (hb.block _ (Pl.blk_lt k0)).trans k0; replace kx := (hb.block _ (Pl.blk_lt kx)).trans kx; replace r0 := r0.below hb; replace my := my.below hb; replace B0 := Rw.next B0 hb; clear hb; obtain ⟨p0, p1⟩ := Pl.two k0; obtain ⟨y0, y1⟩ := Pl.two kx)
    | (go_at_call 8; refine (Pm.eqPg_same y z _ my m2 (HY.out.trans s2.symm) _ (Below.refl _ _)).mono ?_; rintro e w5 ⟨rfl, hb⟩; clear m2 s2; clear p0 p1 y0 y1; replace k0 := (hb.block _ (Pl.blk_lt k0)).trans k0; replace kx := (hb.block _ (Pl.blk_lt kx)).trans kx; replace r0 := r0.below hb; replace my := my.below hb; replace B0 := Rw.next B0 hb; clear hb; obtain ⟨p0, p1⟩ := Pl.two k0; obtain ⟨y0, y1⟩ := Pl.two kx))
  go_wp2
  go_ret
  exact ⟨rfl, B0⟩

set_option maxRecDepth 100000 in
theorem lifted (os : Os) (started : os.Started) (H : Type) (enc : TypeId × Value → H) :
    ReturnsInHanded {} Try.checked os 3 .any (Rows.fnExactProgramOkSpec.pre6 enc Try.prog Try.f3 Rows.fnExactProgramOkRow.domain false) (Rows.fnExactProgramOkSpec.post enc Try.prog Try.f3 false true false false) := by
  refine returnsInHanded_of_change (C := Try.checked) own started (by kernel_rfl) Try.func3
    (ChangeSpec.witness6 (enc := enc) (C := Try.checked) false ⟨#[], #[.agg #[.slice none 0 0, .slice none 0 0]], []⟩ 8 (by kernel_rfl) (by kernel_rfl) (by kernel_rfl) (by kernel_rfl)) ?_
  intro W base args ds gs before hval0 hW hcnd _
  have hval : ∀ (j : Nat) t v, Try.f3.params[j]? = some t → args[j]? = some v → Value.okWide Try.prog W .any base t v := hval0
  have hW' := hW
  obtain ⟨p, qq, hA0, hV, rfl, hfz, hnd⟩ := hW
  have hA : DataW.TrodAll enc Try.prog W 0 (fun _ => true) true Try.f3.params.toList args.toList ds p := hA0
  rw [Try.params3] at hA hval
  obtain ⟨v0, vs0, d0, ds0, p0, q0, hargs, rfl, rfl, h0, r0⟩ := trodAll_cons hA
  obtain ⟨rfl, rfl, rfl⟩ := trodAll_nil r0
  obtain rfl : args = #[v0] := by cases args; simp_all
  obtain ⟨rfl, rfl⟩ := trodVars_none hV
  have k0 := h0
  have lt0 : ∀ x ∈ p0, x.block < W.heap.size := by obtain ⟨m, hm⟩ := k0; exact DataW.trod_lt m _ _ _ hm
  obtain ⟨q, rfl, w0⟩ := Pm.open_program (hval 0 25 v0 rfl rfl) h0
  clear hA0 hval0
  refine (walk q W w0).mono fun e W' ⟨he, bel⟩ => ?_
  subst he
  exact ⟨_, rfl, _, _, _, [], _, [], hW', trodAll_mk1 (shut_bool Try.underlying4 _), (trodAll_cons_mk (Below.trod laidOut (by kernel_rfl) (of_decide_eq_true (by kernel_rfl)) k0 bel lt0) trodAll_mk0), rfl, bel.frame _, fun h => by cases h⟩

theorem over : Rows.fnExactProgramOkRow.holds Try.pinned (OpenSpec.ofChange Rows.fnExactProgramOkSpec) :=
  OpenClaim.holds_of_wide 3 Try.f3 rfl rfl rfl rfl rfl rfl rfl ⟨rfl, rfl, rfl, rfl, rfl⟩ rfl rfl rfl rfl rfl (by kernel_rfl) Try.func3 (by kernel_rfl)
    (of_decide_eq_true (by kernel_rfl)) (by unfold Func.isWrapper; first | (rw [if_pos (by decide +kernel)]; kernel_rfl) | (rw [if_neg (by decide +kernel)]; exact ⟨rfl, rfl⟩))
    (fun os started H enc _ => lifted os started H enc)

theorem proved : Rows.FnExactProgramOkSaid := over
end Go.Proofs.Ytinkijhgnmcndaa.fnExactProgramOk

namespace Go.Proofs.Ytinkijhgnmcndaa
theorem FnExactProgramOk_holds : Rows.FnExactProgramOkSaid := fnExactProgramOk.proved
end Go.Proofs.Ytinkijhgnmcndaa
