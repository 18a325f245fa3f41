/- A row put in is there, and taken out is not; no condition. -/
import Derived.Test.YtbjbehphdkaahaaRows
import Derived.Test.YtbjbehphdkaahaaDa7
import Derived.Test.YtbjbehphdkaahaaRh
import Derived.Test.YtbjbehphdkaahaaRi
import Derived.WalkKit
import Derived.ProofKit
import Derived.OpenShut
import Derived.ShutString
import Derived.ChangeOld
import Derived.Below
import Derived.Deep.RegionWith
import Derived.Deep.RegionHeld3
namespace Go.Proofs.Ytbjbehphdkaahaa.fnAddDrop
open Go.ChangeShapes Go.WideShapes Go.ChangeAt Go.RowKit
set_option linter.unusedVariables false
set_option linter.unusedSimpArgs false

theorem own : ownKnob Try.prog.godebug = none := by kernel_rfl
theorem laidOut : laidOutB Try.prog = true := by kernel_rfl

set_option maxRecDepth 8000 in
set_option maxHeartbeats 16000000 in
theorem walk (a0 : Option Addr) (n0 c0 : Nat) (z0 : List Int) (w : World) (w0 : Rw.IsRow .u8 w a0 n0 c0 z0) :
    Calls Try.prog 4 #[.slice a0 n0 c0] w fun e w' => e = .returned (.bool true) ∧ Below w.heap.size w w' := by
  by_cases big0 : 1048576 < n0
  · have z0 : (1048576 : Int) < (n0 : Int) := by omega
    go_enter Try.func4, Try.ntmps4
    go_wp2
    go_ret
    exact ⟨rfl, Below.refl _ _⟩
  have z0 : ¬ (1048576 : Int) < (n0 : Int) := by omega
  obtain ⟨b0, o0, l, hl, rd0⟩ := Rw.rd_of_isRow w0 (by omega)
  subst hl
  clear w0 big0
  go_enter Try.func4, Try.ntmps4
  go_wp2_with (go_at_call 19; refine (Dr.drawadd_any _ _ _ _ l _ rd0).mono ?_; rintro e w1 ⟨x, va, vn, vc, Q, ⟨da, rb, ro, dc, m⟩, rfl, orr, hQ, hnr, BW⟩; obtain ⟨fa, fg, fc, hv, rQ, hfb⟩ := orr.og.form (by omega); simp only [Value.slice.injEq] at hv; obtain ⟨rfl, rfl, rfl⟩ := hv; have hcQ := orr.og.cap.1; have rM : Vl.Rd w1 da rb ro m := hnr.ok; clear hfb orr hnr; simp only [Rl.Rm.val])
  obtain ⟨ar, X, c, hA, hX⟩ := Rl.MA_some Rp.stAll x (Rl.said Q) x [m]
  obtain ⟨W2, hW2⟩ : ∃ W2, W2 = (w1.alloc (.cells #[.int .i64 x, .slice va Q.length vc] 25)).alloc (.cells #[.slice da m.length dc] 34) := ⟨_, rfl⟩
  obtain ⟨pb, hpb⟩ : ∃ pb, pb = w1.heap.size := ⟨_, rfl⟩
  have kA : W2.heap[pb]? = some (.cells #[.int .i64 x, .slice va Q.length vc] 25 (0, 0)) := by subst hW2; rw [Pl.at_old (by simp [hpb]), Pl.at_new hpb]
  have kB : W2.heap[pb + 1]? = some (.cells #[.slice da m.length dc] 34 (0, 0)) := by subst hW2; exact Pl.at_new (by simp [hpb])
  have hb : Below w1.heap.size w1 W2 := by subst hW2; exact Pl.below_alloc2 _ _ _
  replace rQ := rQ.below hb
  replace rM := rM.below hb
  replace BW := Rw.next BW hb
  clear hb
  rw [← hW2, ← hpb]
  clear hW2 hpb rd0 z0
  have hS := Rl.add_bridge hA
  obtain ⟨ap0, ap1⟩ := Pl.two kA
  have zA := Pl.blk_lt kA
  have b0 := Pl.one kB
  have zB := Pl.blk_lt kB
  go_upto_if 34 with (first
    | (go_at_call 20; clear ap0 ap1 zA b0 zB; refine (Rl.addL_any x _ _ _ _ _ _ _ _ Q m _ rQ rM hcQ ar X c hA).mono ?_; rintro e w3 ⟨ia, ig, ic, F, rfl, rF, hcF, sF, hb⟩; replace kA := (hb.block _ (Pl.blk_lt kA)).trans kA; replace kB := (hb.block _ (Pl.blk_lt kB)).trans kB; replace rQ := rQ.below hb; replace rM := rM.below hb; replace BW := Rw.next BW hb; clear hb; have HF : Hid (Rl.said F = X) := sF; clear sF; obtain ⟨ap0, ap1⟩ := Pl.two kA; have zA := Pl.blk_lt kA; have b0 := Pl.one kB; have zB := Pl.blk_lt kB; obtain ⟨W4, hW4⟩ : ∃ W4, W4 = w3.alloc (.cells #[.int .i64 ar, .slice ia F.length ic] 25) := ⟨_, rfl⟩; have kI : W4.heap[w3.heap.size]? = some (.cells #[.int .i64 ar, .slice ia F.length ic] 25 (0, 0)) := (by subst hW4; exact Pl.at_new rfl); have hb : Below w3.heap.size w3 W4 := (by subst hW4; exact Pl.below_alloc1 _ _); replace kA := (hb.block _ (Pl.blk_lt kA)).trans kA; replace kB := (hb.block _ (Pl.blk_lt kB)).trans kB; replace rQ := rQ.below hb; replace rM := rM.below hb; replace rF := rF.below hb; replace BW := Rw.next BW hb; clear hb)
    | (go_at_call 21; clear ap0 ap1 zA b0 zB; rw [← hW4]; clear hW4; refine (Rl.addS_any x _ _ _ _ _ _ _ _ Q m _ rQ rM ar X c hS).mono ?_; rintro e w5 ⟨sa, sb, so, sc, G, rfl, _, _, hb, _⟩; replace kA := (hb.block _ (Pl.blk_lt kA)).trans kA; replace kB := (hb.block _ (Pl.blk_lt kB)).trans kB; replace kI := (hb.block _ (Pl.blk_lt kI)).trans kI; replace rQ := rQ.below hb; replace rM := rM.below hb; replace rF := rF.below hb; replace BW := Rw.next BW hb; clear hb; obtain ⟨ap0, ap1⟩ := Pl.two kA; have zA := Pl.blk_lt kA; have b0 := Pl.one kB; have zB := Pl.blk_lt kB; obtain ⟨ip0, ip1⟩ := Pl.two kI; have zI := Pl.blk_lt kI; obtain ⟨W6, hW6⟩ : ∃ W6, W6 = w5.alloc (.cells #[.int .i64 ar, .slice sa G.length sc] 25) := ⟨_, rfl⟩; have hb : Below w5.heap.size w5 W6 := (by subst hW6; exact Pl.below_alloc1 _ _); replace kA := (hb.block _ (Pl.blk_lt kA)).trans kA; replace kB := (hb.block _ (Pl.blk_lt kB)).trans kB; replace kI := (hb.block _ (Pl.blk_lt kI)).trans kI; replace rQ := rQ.below hb; replace rM := rM.below hb; replace rF := rF.below hb; replace BW := Rw.next BW hb; clear hb))
  clear ap0 ap1 zA b0 zB ip0 ip1 zI
  rw [← hW6]
  clear hW6
  rcases Rl.add_facts hA with ⟨hc, hX0⟩ | ⟨hc0, har, Y, m1, m2, h1, h2, h3⟩
  · have hF0 : F.length = 0 := by rw [← Rl.said_len, HF.out, hX0]; rfl
    clear hX0 hA hS
    obtain ⟨ip0, ip1⟩ := Pl.two kI
    rw [hF0] at ip1
    go_wp2
    go_ret
    exact ⟨rfl, BW⟩
  · have t4 : True := trivial
    subst hc0
    subst har
    clear hA hS
    obtain ⟨ap0, ap1⟩ := Pl.two kA
    have zA := Pl.blk_lt kA
    have b0 := Pl.one kB
    have zB := Pl.blk_lt kB
    obtain ⟨ip0, ip1⟩ := Pl.two kI
    have zI := Pl.blk_lt kI
    have t5 : True := trivial
    go_wp2_with (first
      | (go_at_call 22; clear t5; clear ap0 ap1 zA b0 zB ip0 ip1 zI; refine (Rl.dropL_any _ _ _ _ _ _ _ _ _ F m _ rF rM hcF _ Y 0 (by rw [HF.out]; exact m1)).mono ?_; rintro e w7 ⟨oa, og, oc, G1, rfl, rG, hcG, sG, hb⟩; replace kA := (hb.block _ (Pl.blk_lt kA)).trans kA; replace kB := (hb.block _ (Pl.blk_lt kB)).trans kB; replace kI := (hb.block _ (Pl.blk_lt kI)).trans kI; replace rQ := rQ.below hb; replace rM := rM.below hb; replace rF := rF.below hb; replace BW := Rw.next BW hb; clear hb; have HG : Hid (Rl.said G1 = Y) := sG; clear sG; obtain ⟨ap0, ap1⟩ := Pl.two kA; have zA := Pl.blk_lt kA; have b0 := Pl.one kB; have zB := Pl.blk_lt kB; obtain ⟨ip0, ip1⟩ := Pl.two kI; have zI := Pl.blk_lt kI; obtain ⟨W8, hW8⟩ : ∃ W8, W8 = w7.alloc (.cells #[.int .i64 ar, .slice oa G1.length oc] 25) := ⟨_, rfl⟩; have kO : W8.heap[w7.heap.size]? = some (.cells #[.int .i64 ar, .slice oa G1.length oc] 25 (0, 0)) := (by subst hW8; exact Pl.at_new rfl); have hb : Below w7.heap.size w7 W8 := (by subst hW8; exact Pl.below_alloc1 _ _); replace kA := (hb.block _ (Pl.blk_lt kA)).trans kA; replace kB := (hb.block _ (Pl.blk_lt kB)).trans kB; replace kI := (hb.block _ (Pl.blk_lt kI)).trans kI; replace rQ := rQ.below hb; replace rM := rM.below hb; replace rF := rF.below hb; replace rG := rG.below hb; replace BW := Rw.next BW hb; clear hb; have t6 : True := trivial)
      | (go_at_call 22; clear t6; clear ap0 ap1 zA b0 zB ip0 ip1 zI; rw [← hW8]; clear hW8; refine (Rl.dropL_any _ _ _ _ _ _ _ _ _ Q m _ rQ rM hcQ _ Y 0 m2).mono ?_; rintro e w9 ⟨wa, wg, wz, G2, rfl, rV, hcV, sV, hb⟩; replace kA := (hb.block _ (Pl.blk_lt kA)).trans kA; replace kB := (hb.block _ (Pl.blk_lt kB)).trans kB; replace kI := (hb.block _ (Pl.blk_lt kI)).trans kI; replace kO := (hb.block _ (Pl.blk_lt kO)).trans kO; replace rQ := rQ.below hb; replace rM := rM.below hb; replace rF := rF.below hb; replace rG := rG.below hb; replace BW := Rw.next BW hb; clear hb; have HV : Hid (Rl.said G2 = Y) := sV; clear sV; obtain ⟨ap0, ap1⟩ := Pl.two kA; have zA := Pl.blk_lt kA; have b0 := Pl.one kB; have zB := Pl.blk_lt kB; obtain ⟨ip0, ip1⟩ := Pl.two kI; have zI := Pl.blk_lt kI; obtain ⟨op0, op1⟩ := Pl.two kO; have zO := Pl.blk_lt kO; obtain ⟨W10, hW10⟩ : ∃ W10, W10 = w9.alloc (.cells #[.int .i64 ar, .slice wa G2.length wz] 25) := ⟨_, rfl⟩; have kV : W10.heap[w9.heap.size]? = some (.cells #[.int .i64 ar, .slice wa G2.length wz] 25 (0, 0)) := (by subst hW10; exact Pl.at_new rfl); have hb : Below w9.heap.size w9 W10 := (by subst hW10; exact Pl.below_alloc1 _ _); replace kA := (hb.block _ (Pl.blk_lt kA)).trans kA; replace kB := (hb.block _ (Pl.blk_lt kB)).trans kB; replace kI := (hb.block _ (Pl.blk_lt kI)).trans kI; replace kO := (hb.block _ (Pl.blk_lt kO)).trans kO; replace rQ := rQ.below hb; replace rM := rM.below hb; replace rF := rF.below hb; replace rG := rG.below hb; replace rV := rV.below hb; replace BW := Rw.next BW hb; clear hb; have t7 : True := trivial)
      | (go_at_call 23; (clear t7; clear ap0 ap1 zA b0 zB ip0 ip1 zI op0 op1 zO; rw [← hW10]; clear hW10; refine (Rl.hasI_any _ _ _ _ _ _ _ _ _ F m _ rF rM).mono ?_; rw [HF.out, h1]; rintro e w11 ⟨rfl, hb⟩; replace kA := (hb.block _ (Pl.blk_lt kA)).trans kA; replace kB := (hb.block _ (Pl.blk_lt kB)).trans kB; replace kI := (hb.block _ (Pl.blk_lt kI)).trans kI; replace kO := (hb.block _ (Pl.blk_lt kO)).trans kO; replace kV := (hb.block _ (Pl.blk_lt kV)).trans kV; replace rM := rM.below hb; replace rG := rG.below hb; replace rV := rV.below hb; replace BW := Rw.next BW hb; clear hb; obtain ⟨ap0, ap1⟩ := Pl.two kA; have zA := Pl.blk_lt kA; have b0 := Pl.one kB; have zB := Pl.blk_lt kB; obtain ⟨ip0, ip1⟩ := Pl.two kI; have zI := Pl.blk_lt kI; obtain ⟨op0, op1⟩ := Pl.two kO; have zO := Pl.blk_lt kO; obtain ⟨vp0, vp1⟩ := Pl.two kV; have zV := Pl.blk_lt kV; have t8 : True := trivial))
      | (go_at_call 23; clear t8; clear ap0 ap1 zA b0 zB ip0 ip1 zI op0 op1 zO vp0 vp1 zV; refine (Rl.hasI_any _ _ _ _ _ _ _ _ _ G1 m _ rG rM).mono ?_; rw [HG.out, h2]; rintro e w12 ⟨rfl, hb⟩; replace kA := (hb.block _ (Pl.blk_lt kA)).trans kA; replace kB := (hb.block _ (Pl.blk_lt kB)).trans kB; replace kI := (hb.block _ (Pl.blk_lt kI)).trans kI; replace kO := (hb.block _ (Pl.blk_lt kO)).trans kO; replace kV := (hb.block _ (Pl.blk_lt kV)).trans kV; replace rM := rM.below hb; replace rG := rG.below hb; replace rV := rV.below hb; replace BW := Rw.next BW hb; clear hb; obtain ⟨ap0, ap1⟩ := Pl.two kA; have zA := Pl.blk_lt kA; have b0 := Pl.one kB; have zB := Pl.blk_lt kB; obtain ⟨ip0, ip1⟩ := Pl.two kI; have zI := Pl.blk_lt kI; obtain ⟨op0, op1⟩ := Pl.two kO; have zO := Pl.blk_lt kO; obtain ⟨vp0, vp1⟩ := Pl.two kV; have zV := Pl.blk_lt kV)
      | (go_at_call 18; refine (Rl.sameS_any _ _ _ _ _ _ _ _ _ _ G1 G2 _ rG rV).mono ?_; rw [HG.out, HV.out, h3]; rintro e w13 ⟨rfl, hb⟩; replace BW := Rw.next BW hb; clear hb))
    go_ret
    exact ⟨rfl, BW⟩

set_option maxRecDepth 100000 in
theorem lifted (os : Os) (started : os.Started) (H : Type) (enc : TypeId × Value → H) :
    ReturnsInHanded {} Try.checked os 4 .any (Rows.fnAddDropSpec.pre6 enc Try.prog Try.f4 Rows.fnAddDropRow.domain false) (Rows.fnAddDropSpec.post enc Try.prog Try.f4 false true false false) := by
  refine returnsInHanded_of_change (C := Try.checked) own started (by kernel_rfl) Try.func4
    (ChangeSpec.witness6 (enc := enc) (C := Try.checked) false ⟨#[], #[.slice none 0 0], []⟩ 8 (by kernel_rfl) (by kernel_rfl) (by kernel_rfl) (by kernel_rfl)) ?_
  intro W base args ds gs before hval0 hW hcnd _
  have hval : ∀ (j : Nat) t v, Try.f4.params[j]? = some t → args[j]? = some v → Value.okWide Try.prog W .any base t v := hval0
  have hW' := hW
  obtain ⟨p, q, hA0, hV, rfl, hfz, hnd⟩ := hW
  have hA : DataW.TrodAll enc Try.prog W 0 (fun _ => true) true Try.f4.params.toList args.toList ds p := hA0
  rw [Try.params4] at hA hval
  obtain ⟨v0, vs0, d0, ds0, p0, q0, hargs, rfl, rfl, h0, r0⟩ := trodAll_cons hA
  obtain ⟨rfl, rfl, rfl⟩ := trodAll_nil r0
  obtain rfl : args = #[v0] := by cases args; simp_all
  obtain ⟨rfl, rfl⟩ := trodVars_none hV
  have k0 := h0
  have lt0 : ∀ x ∈ p0, x.block < W.heap.size := by obtain ⟨m, hm⟩ := k0; exact DataW.trod_lt m _ _ _ hm
  obtain ⟨a0, n0, c0, rfl⟩ := okWide_slice Try.underlying22 (hval 0 22 v0 rfl rfl)
  obtain ⟨z0, w0⟩ : ∃ zs, Rw.IsRow .u8 W a0 n0 c0 zs := by
    obtain ⟨fuel, hf⟩ := h0
    rcases open_ints Try.underlying22 Try.underlying5 (by kernel_rfl) hf with ⟨hcs, _⟩ | ⟨x, l, c, zs, hcs, _, hl, hm, hz, _, hcell, hwz⟩
    · simp [Value.cells] at hcs
      obtain ⟨rfl, rfl, rfl⟩ := hcs
      exact ⟨[], .inl ⟨rfl, rfl, rfl, rfl⟩⟩
    · simp [Value.cells] at hcs
      obtain ⟨rfl, rfl, rfl⟩ := hcs
      exact ⟨zs, .inr ⟨_, rfl, hl, hm, by simpa using hz, hcell, hwz⟩⟩
  clear hA0 hval0
  refine (walk a0 n0 c0 z0 W w0).mono fun e W' ⟨he, bel⟩ => ?_
  subst he
  exact ⟨_, rfl, _, _, _, [], _, [], hW', trodAll_mk1 (shut_bool Try.underlying4 _), (trodAll_cons_mk (Below.trod laidOut (by kernel_rfl) (of_decide_eq_true (by kernel_rfl)) k0 bel lt0) trodAll_mk0), rfl, bel.frame _, fun h => by cases h⟩

theorem over : Rows.fnAddDropRow.holds Try.pinned (OpenSpec.ofChange Rows.fnAddDropSpec) :=
  OpenClaim.holds_of_wide 4 Try.f4 rfl rfl rfl rfl rfl rfl rfl ⟨rfl, rfl, rfl, rfl, rfl⟩ rfl rfl rfl rfl rfl (by kernel_rfl) Try.func4 (by kernel_rfl)
    (of_decide_eq_true (by kernel_rfl)) (by unfold Func.isWrapper; first | (rw [if_pos (by decide +kernel)]; kernel_rfl) | (rw [if_neg (by decide +kernel)]; exact ⟨rfl, rfl⟩))
    (fun os started H enc _ => lifted os started H enc)

theorem proved : Rows.FnAddDropSaid := over
end Go.Proofs.Ytbjbehphdkaahaa.fnAddDrop

namespace Go.Proofs.Ytbjbehphdkaahaa
theorem FnAddDrop_holds : Rows.FnAddDropSaid := fnAddDrop.proved
end Go.Proofs.Ytbjbehphdkaahaa
