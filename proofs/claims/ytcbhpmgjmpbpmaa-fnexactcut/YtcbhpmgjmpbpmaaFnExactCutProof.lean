/- At every hold and every piece the program and the specification cut the same parts and leave the same; the arguments read as before, the answer owns its memory; no condition. -/
import Derived.Test.YtcbhpmgjmpbpmaaRows
import Derived.Test.YtcbhpmgjmpbpmaaQf
import Derived.WalkKit
import Derived.ProofKit
import Derived.OpenShut
import Derived.ShutString
import Derived.ChangeOld
import Derived.Below
import Derived.Deep.RegionWith
import Derived.Deep.RegionHeld3
namespace Go.Proofs.Ytcbhpmgjmpbpmaa.fnExactCut
open Go.ChangeShapes Go.WideShapes Go.ChangeAt Go.RowKit
set_option linter.unusedVariables false
set_option linter.unusedSimpArgs false

theorem own : ownKnob Try.prog.godebug = none := by kernel_rfl
theorem laidOut : laidOutB Try.prog = true := by kernel_rfl

set_option maxRecDepth 8000 in
set_option maxHeartbeats 16000000 in
theorem walk (a0 : Option Addr) (n0 c0 : Nat) (z0 : List Int) (a1 : Option Addr) (n1 c1 : Nat) (z1 : List Int) (w : World) (w0 : Rw.IsRow .u8 w a0 n0 c0 z0) (w1 : Rw.IsRow .u8 w a1 n1 c1 z1) :
    Calls Try.prog 8 #[.slice a0 n0 c0, .slice a1 n1 c1] w fun e w' => e = .returned (.bool true) ∧ Below w.heap.size w w' := by
  by_cases big0 : 1048576 < n0
  · have z0 : (1048576 : Int) < (n0 : Int) := by omega
    go_enter Try.func8, Try.ntmps8
    go_wp2
    go_ret
    exact ⟨rfl, Below.refl _ _⟩
  have z0 : ¬ (1048576 : Int) < (n0 : Int) := by omega
  by_cases big1 : 1048576 < n1
  · have z1 : (1048576 : Int) < (n1 : Int) := by omega
    go_enter Try.func8, Try.ntmps8
    go_wp2
    go_ret
    exact ⟨rfl, Below.refl _ _⟩
  have z1 : ¬ (1048576 : Int) < (n1 : Int) := by omega
  obtain ⟨b0, o0, l, hl, rd0⟩ := Rw.rd_of_isRow w0 (by omega)
  obtain ⟨b1, o1, m, hm, rd1⟩ := Rw.rd_of_isRow w1 (by omega)
  subst hl hm
  clear w0 w1 big0 big1
  obtain ⟨ok, L, r, cI, cS⟩ := Gq.cuts l m
  have hT := Rw.toByteS_any
  go_enter Try.func8, Try.ntmps8
  have t1 : True := trivial
  go_wp2_with (first
    | (go_at_call 30; clear t1; refine (hT _ _ _ _ l _ rd0).mono ?_; rintro e wA ⟨rfl, hb, mA⟩; have BW := hb; clear hb; have t2 : True := trivial)
    | (go_at_call 30; clear t2; refine (hT _ _ _ _ m _ (rd1.below BW)).mono ?_; rintro e wB ⟨rfl, hb, mB⟩; replace mA := mA.below hb; replace BW := Rw.next BW hb; clear hb)
    | (go_at_call 20; refine (cS _ _ _ _ _ _ _ _ _ mA.rd mB.rd).mono ?_; rintro e ws ⟨hb, sa, sg, sc, SP, ta, tg, tc, rfl, GS⟩; replace BW := Rw.next BW hb; have szW := BW.size; clear hb mA mB; have t3 : True := trivial)
    | (go_at_call 30; clear t3; refine (hT _ _ _ _ l _ (rd0.below BW)).mono ?_; rintro e wX ⟨rfl, hb, mX⟩; have BS := hb; replace BW := Rw.next BW hb; clear hb; have t4 : True := trivial))
  obtain ⟨X, hX⟩ : ∃ X, X = ws.heap.size := ⟨_, rfl⟩
  have HX : Hid (X = ws.heap.size) := hX
  rw [← hX] at mX ⊢
  have xX := mX.row.lt
  clear hX
  go_wp2_with (first
    | (go_at_call 30; clear t4; refine (hT _ _ _ _ m _ (rd1.below BW)).mono ?_; rintro e wY ⟨rfl, hb, mY⟩; replace mX := mX.below hb; replace BS := Rw.next BS hb; replace BW := Rw.next BW hb; clear hb; have t5 : True := trivial))
  obtain ⟨Y, hY⟩ : ∃ Y, Y = wX.heap.size := ⟨_, rfl⟩
  have HY : Hid (Y = wX.heap.size) := hY
  rw [← hY] at mY ⊢
  have XY : X < Y := by omega
  have yY := mY.row.lt
  have sX : ws.heap.size ≤ X := by have := HX.out; omega
  clear hY xX
  go_wp2_with (first
    | (go_at_call 19; clear t5; refine (cI _ _ _ _ _ _ _ _ _ mX.rd mY.rd).mono ?_; rintro e wg ⟨hb, pa, pg, pc, P, ra, rg, rc, rfl, GG⟩; replace mX := mX.below hb; replace mY := mY.below hb; replace BS := Rw.next BS hb; replace BW := Rw.next BW hb; clear hb; have GS1 := GS.below BS; have t6 : True := trivial)
    | (go_at_call 32; clear t6; refine (Gq.eqP GG GS1 _ _).mono ?_; rintro e wa ⟨rfl, hb⟩; replace mX := mX.below hb; replace mY := mY.below hb; replace BS := Rw.next BS hb; replace BW := Rw.next BW hb; replace GG := GG.below hb; replace GS1 := GS1.below hb; clear hb; have t7 : True := trivial)
    | (go_at_call 25; clear t7; refine (Gq.eqR GG GS1 _ _).mono ?_; rintro e wb ⟨rfl, hb⟩; replace mX := mX.below hb; replace mY := mY.below hb; replace BS := Rw.next BS hb; replace BW := Rw.next BW hb; replace GG := GG.below hb; clear hb GS1; have t8 : True := trivial)
    | (go_at_call 30; clear t8; refine (hT _ _ _ _ l _ (rd0.below BW)).mono ?_; rintro e wc ⟨rfl, hb, mC⟩; replace mX := mX.below hb; replace mY := mY.below hb; replace BS := Rw.next BS hb; replace BW := Rw.next BW hb; replace GG := GG.below hb; clear hb; have t9 : True := trivial)
    | (go_at_call 25; clear t9; refine (Gq.eqL l _ _ _ _ _ _ _ _ _ mX.rd mC.rd).mono ?_; rintro e wd ⟨rfl, hb⟩; replace mX := mX.below hb; replace mY := mY.below hb; replace BS := Rw.next BS hb; replace BW := Rw.next BW hb; replace GG := GG.below hb; clear hb mC; have t10 : True := trivial)
    | (go_at_call 30; clear t10; refine (hT _ _ _ _ m _ (rd1.below BW)).mono ?_; rintro e we ⟨rfl, hb, mC⟩; replace mX := mX.below hb; replace mY := mY.below hb; replace BS := Rw.next BS hb; replace BW := Rw.next BW hb; replace GG := GG.below hb; clear hb; have t11 : True := trivial)
    | (go_at_call 25; clear t11; refine (Gq.eqL m _ _ _ _ _ _ _ _ _ mY.rd mC.rd).mono ?_; rintro e wf ⟨rfl, hb⟩; replace mX := mX.below hb; replace mY := mY.below hb; replace BS := Rw.next BS hb; replace BW := Rw.next BW hb; replace GG := GG.below hb; clear hb mC; have t12 : True := trivial))
  have wX1 := Mk.mine_wt mX
  have wY1 := Mk.mine_wt mY
  have sz1 := BS.size
  have sY : ws.heap.size ≤ wY.heap.size := by omega
  have l0 := rd0.size
  have l1 := rd1.size
  clear mX mY
  have mk0 := Gd.markB_any 1 (by omega) (by omega) _ X l.length l wf wX1
  have q0 : ¬ (1 + (l.length : Int) + (m.length : Int) < 0) := by omega
  have K1 : 0 ≤ 1 + (l.length : Int) ∧ 1 + (l.length : Int) ≤ 1000000000000 := by omega
  have q1 : ¬ (1 + (Gp.kP P P.length : Int) < 0) := by omega
  have q2 : ¬ (1 + (Gp.kP P P.length : Int) + (r.length : Int) < 0) := by omega
  have HXX : Hid (w.heap.size ≤ X ∧ ws.heap.size ≤ X ∧ X < Y ∧ Y < wY.heap.size ∧ w.heap.size ≤ ws.heap.size ∧ ws.heap.size ≤ wY.heap.size) := ⟨by omega, sX, XY, yY, szW, sY⟩
  have hlen : ∀ i, i < P.length → 0 < (P.getD i Gp.p0).l.length := fun i hi => (GG.form.each i hi).2.2
  have HLEN : Hid (∀ i, i < P.length → 0 < (P.getD i Gp.p0).l.length) := hlen
  clear sX XY yY szW sY l0 l1 sz1 hlen
  go_wp2_with (first
    | (go_at_call 27; clear t12; refine mk0.mono ?_; rintro e wh ⟨rfl, hk, _⟩; have HXO := HXX.out; replace wY1 := Gd.wt_kept hk wY1 (.inr (.inr (by omega))); replace GG := GG.kept hk (by omega); replace BS := hk.only.below BS BS.size (by omega); replace BW := hk.only.below BW BW.size (by omega); clear hk HXO wX1; have mk1 := Gd.markB_any (1 + (l.length : Int)) K1.1 K1.2 _ Y m.length m _ wY1; have t13 : True := trivial)
    | (go_at_call 27; clear t13; refine mk1.mono ?_; rintro e wi ⟨rfl, hk, _⟩; have HXO := HXX.out; replace GG := GG.kept hk (by omega); replace BS := hk.only.below BS BS.size (by omega); replace BW := hk.only.below BW BW.size (by omega); clear hk HXO wY1 mk1; have GS1 := GS.below BS; have t14 : True := trivial)
    | (go_at_call 32; clear t14; refine (Gq.eqP GG GS1 _ _).mono ?_; rintro e wj ⟨rfl, hb⟩; replace BS := Rw.next BS hb; replace BW := Rw.next BW hb; replace GG := GG.below hb; replace GS1 := GS1.below hb; clear hb; have t15 : True := trivial)
    | (go_at_call 25; clear t15; refine (Gq.eqR GG GS1 _ _).mono ?_; rintro e wk ⟨rfl, hb⟩; replace BS := Rw.next BS hb; replace BW := Rw.next BW hb; replace GG := GG.below hb; clear hb GS1)
    | (go_at_call 33; refine (Gq.markP GG _).mono ?_; rintro e wl ⟨rfl, hk, hm, hw⟩; have HXO := HXX.out; replace BS := hk.below BS (fun x hx => (by have := GG.use hx; omega)); replace BW := hk.below BW (fun x hx => (by have := GG.use hx; omega)); clear hk HXO; have t16 : True := trivial)
    | (go_at_call 27; clear t16; refine (Gq.markR GG hm hw _).mono ?_; rintro e wm ⟨rfl, hk, HM⟩; have HXO := HXX.out; have glo := GG.lo; replace BS := hk.only.below BS BS.size (by omega); replace BW := hk.only.below BW BW.size (by omega); clear hk HXO glo hm hw; have t17 : True := trivial)
    | (go_at_call 34; clear t17; refine (Gq.heldP GG HM _).mono ?_; rintro e wz ⟨rfl, hz⟩; replace hz := hz.symm; subst hz; have t18 : True := trivial)
    | (go_at_call 28; clear t18; refine (Gq.heldR GG HM _).mono ?_; rintro e wz ⟨rfl, hz⟩; replace hz := hz.symm; subst hz; have t19 : True := trivial))
  go_wp2_with (first
    | (go_at_call 30; clear t19; refine (hT _ _ _ _ l _ (rd0.below BW)).mono ?_; rintro e wn ⟨rfl, hb, mA⟩; replace BS := Rw.next BS hb; replace BW := Rw.next BW hb; replace HM := HM.below hb HLEN.out; clear hb; have t20 : True := trivial)
    | (go_at_call 30; clear t20; refine (hT _ _ _ _ m _ (rd1.below BW)).mono ?_; rintro e wo ⟨rfl, hb, mB⟩; replace mA := mA.below hb; replace BS := Rw.next BS hb; replace BW := Rw.next BW hb; replace HM := HM.below hb HLEN.out; clear hb)
    | (go_at_call 19; refine (cI _ _ _ _ _ _ _ _ _ mA.rd mB.rd).mono ?_; rintro e wp ⟨hb, ua, ug, uc, UP, va, vg, vc, rfl, GU⟩; replace BS := Rw.next BS hb; replace BW := Rw.next BW hb; replace HM := HM.below hb HLEN.out; clear hb mA mB; have GS1 := GS.below BS)
    | (go_at_call 32; refine (Gq.eqP GU GS1 _ _).mono ?_; rintro e wq ⟨rfl, hb⟩; replace BW := Rw.next BW hb; replace GU := GU.below hb; replace GS1 := GS1.below hb; replace HM := HM.below hb HLEN.out; clear hb)
    | (go_at_call 25; refine (Gq.eqR GU GS1 _ _).mono ?_; rintro e wr ⟨rfl, hb⟩; replace BW := Rw.next BW hb; replace HM := HM.below hb HLEN.out; clear hb GS1 GU; have t21 : True := trivial)
    | (go_at_call 34; clear t21; refine (Gq.heldP GG HM _).mono ?_; rintro e wz ⟨rfl, hz⟩; replace hz := hz.symm; subst hz; have t22 : True := trivial)
    | (go_at_call 28; clear t22; refine (Gq.heldR GG HM _).mono ?_; rintro e wz ⟨rfl, hz⟩; replace hz := hz.symm; subst hz))
  go_ret
  exact ⟨rfl, BW⟩

set_option maxRecDepth 100000 in
theorem lifted (os : Os) (started : os.Started) (H : Type) (enc : TypeId × Value → H) :
    ReturnsInHanded {} Try.checked os 8 .any (Rows.fnExactCutSpec.pre6 enc Try.prog Try.f8 Rows.fnExactCutRow.domain false) (Rows.fnExactCutSpec.post enc Try.prog Try.f8 false true false false) := by
  refine returnsInHanded_of_change (C := Try.checked) own started (by kernel_rfl) Try.func8
    (ChangeSpec.witness6 (enc := enc) (C := Try.checked) false ⟨#[], #[.slice none 0 0, .slice none 0 0], []⟩ 8 (by kernel_rfl) (by kernel_rfl) (by kernel_rfl) (by kernel_rfl)) ?_
  intro W base args ds gs before hval0 hW hcnd _
  have hval : ∀ (j : Nat) t v, Try.f8.params[j]? = some t → args[j]? = some v → Value.okWide Try.prog W .any base t v := hval0
  have hW' := hW
  obtain ⟨p, q, hA0, hV, rfl, hfz, hnd⟩ := hW
  have hA : DataW.TrodAll enc Try.prog W 0 (fun _ => true) true Try.f8.params.toList args.toList ds p := hA0
  rw [Try.params8] at hA hval
  obtain ⟨v0, vs0, d0, ds0, p0, q0, hargs, rfl, rfl, h0, r0⟩ := trodAll_cons hA
  obtain ⟨v1, vs1, d1, ds1, p1, q1, rfl, rfl, rfl, h1, r1⟩ := trodAll_cons r0
  obtain ⟨rfl, rfl, rfl⟩ := trodAll_nil r1
  obtain rfl : args = #[v0, v1] := by cases args; simp_all
  obtain ⟨rfl, rfl⟩ := trodVars_none hV
  have k0 := h0
  have lt0 : ∀ x ∈ p0, x.block < W.heap.size := by obtain ⟨m, hm⟩ := k0; exact DataW.trod_lt m _ _ _ hm
  obtain ⟨a0, n0, c0, rfl⟩ := okWide_slice Try.underlying22 (hval 0 22 v0 rfl rfl)
  obtain ⟨z0, w0⟩ : ∃ zs, Rw.IsRow .u8 W a0 n0 c0 zs := by
    obtain ⟨fuel, hf⟩ := h0
    rcases open_ints Try.underlying22 Try.underlying5 (by kernel_rfl) hf with ⟨hcs, _⟩ | ⟨x, l, c, zs, hcs, _, hl, hm, hz, _, hcell, hwz⟩
    · simp [Value.cells] at hcs
      obtain ⟨rfl, rfl, rfl⟩ := hcs
      exact ⟨[], .inl ⟨rfl, rfl, rfl, rfl⟩⟩
    · simp [Value.cells] at hcs
      obtain ⟨rfl, rfl, rfl⟩ := hcs
      exact ⟨zs, .inr ⟨_, rfl, hl, hm, by simpa using hz, hcell, hwz⟩⟩
  have k1 := h1
  have lt1 : ∀ x ∈ p1, x.block < W.heap.size := by obtain ⟨m, hm⟩ := k1; exact DataW.trod_lt m _ _ _ hm
  obtain ⟨a1, n1, c1, rfl⟩ := okWide_slice Try.underlying22 (hval 1 22 v1 rfl rfl)
  obtain ⟨z1, w1⟩ : ∃ zs, Rw.IsRow .u8 W a1 n1 c1 zs := by
    obtain ⟨fuel, hf⟩ := h1
    rcases open_ints Try.underlying22 Try.underlying5 (by kernel_rfl) hf with ⟨hcs, _⟩ | ⟨x, l, c, zs, hcs, _, hl, hm, hz, _, hcell, hwz⟩
    · simp [Value.cells] at hcs
      obtain ⟨rfl, rfl, rfl⟩ := hcs
      exact ⟨[], .inl ⟨rfl, rfl, rfl, rfl⟩⟩
    · simp [Value.cells] at hcs
      obtain ⟨rfl, rfl, rfl⟩ := hcs
      exact ⟨zs, .inr ⟨_, rfl, hl, hm, by simpa using hz, hcell, hwz⟩⟩
  clear hA0 hval0
  refine (walk a0 n0 c0 z0 a1 n1 c1 z1 W w0 w1).mono fun e W' ⟨he, bel⟩ => ?_
  subst he
  exact ⟨_, rfl, _, _, _, [], _, [], hW', trodAll_mk1 (shut_bool Try.underlying4 _), (trodAll_cons_mk (Below.trod laidOut (by kernel_rfl) (of_decide_eq_true (by kernel_rfl)) k0 bel lt0) (trodAll_cons_mk (Below.trod laidOut (by kernel_rfl) (of_decide_eq_true (by kernel_rfl)) k1 bel lt1) trodAll_mk0)), rfl, bel.frame _, fun h => by cases h⟩

theorem over : Rows.fnExactCutRow.holds Try.pinned (OpenSpec.ofChange Rows.fnExactCutSpec) :=
  OpenClaim.holds_of_wide 8 Try.f8 rfl rfl rfl rfl rfl rfl rfl ⟨rfl, rfl, rfl, rfl, rfl⟩ rfl rfl rfl rfl rfl (by kernel_rfl) Try.func8 (by kernel_rfl)
    (of_decide_eq_true (by kernel_rfl)) (by unfold Func.isWrapper; first | (rw [if_pos (by decide +kernel)]; kernel_rfl) | (rw [if_neg (by decide +kernel)]; exact ⟨rfl, rfl⟩))
    (fun os started H enc _ => lifted os started H enc)

theorem proved : Rows.FnExactCutSaid := over
end Go.Proofs.Ytcbhpmgjmpbpmaa.fnExactCut

namespace Go.Proofs.Ytcbhpmgjmpbpmaa
theorem FnExactCut_holds : Rows.FnExactCutSaid := fnExactCut.proved
end Go.Proofs.Ytcbhpmgjmpbpmaa
